/- For all raw circuits that are not great, and at most 20 pairs: with the variables of the pairs exchanged, one after the other, the errors and the circuit are the same. No conditions. -/
import Derived.Test.YtpdfdbnmohippaaOrderFrame
import Derived.Test.YtpdfdbnmohippaaOrderPrs
import Derived.Test.YtpdfdbnmohippaaOrderSameKit
import Derived.Test.YtpdfdbnmohippaaHeadTail
namespace Go.Proofs.Ytpdfdbnmohippaa.orderMoved
open Go.ChangeShapes Go.WideShapes Go.ChangeAt Go.RowKit
set_option linter.unusedVariables false
set_option linter.unusedSimpArgs false

theorem swap_val (j yn xn : Nat) (a c d : Int) : (if j = yn then Value.int .i64 a else if j = xn then .int .i64 c else .int .i64 d) = .int .i64 (if (j : Int) = (yn : Int) then a else if (j : Int) = (xn : Int) then c else d) := by
  by_cases e1 : j = yn
  · have h1 : (j : Int) = yn := by omega
    rw [if_pos e1, if_pos h1]
  · have h1 : ¬ (j : Int) = yn := by omega
    rw [if_neg e1, if_neg h1]
    by_cases e2 : j = xn
    · have h2 : (j : Int) = xn := by omega
      rw [if_pos e2, if_pos h2]
    · have h2 : ¬ (j : Int) = xn := by omega
      rw [if_neg e2, if_neg h2]


theorem own : ownKnob Try.prog.godebug = none := by kernel_rfl

set_option maxRecDepth 100000 in
set_option maxHeartbeats 40000000 in
theorem walk (c0 : Rw) (p0 : Rp) (A1 : Option Addr) (n1 k1 : Nat) (f1 g1 : Nat → Int) (w : World) (hm0 : RMem w w.heap.size c0 p0) (hN0 : RNils c0 p0) (hv0 : RVals c0) (hC0 : RCaps c0 p0) (hm1 : PairsAt w w.heap.size A1 n1 f1 g1) (hN1 : A1 = none → n1 = 0 ∧ k1 = 0) (hC1 : n1 ≤ k1 ∧ k1 ≤ maxLen) (hr1 : (∀ j, I64 (f1 j)) ∧ (∀ j, I64 (g1 j))) :
    Calls Try.prog 6 #[rv c0 p0, .slice A1 n1 k1] w fun e w' => e = .returned (.bool true) ∧ Below w.heap.size w w' := by
  have HM := Lib.hid hm0
  have HN := Lib.hid hN0
  have AL : Hid (∀ W, Calls Try.prog 15 #[] W fun e w' => e = .returned (.bool true) ∧ Below W.heap.size W w') := fun W => alive3_any W
  cases hg : c0.gr
  · have hs : RSm c0 := hv0.sm hg
    have HS := Lib.hid hs
    have G0 : Hid (∀ W, Calls Try.prog 16 #[rv c0 p0] W fun e w' => e = .returned (.bool false) ∧ Below W.heap.size W w') := fun W => by have := oGreat_any c0 p0 W; rwa [hg] at this
    by_cases hp : 20 < n1
    · have hp' : (20 : Int) < (n1 : Int) := by omega
      clear hs hm0 hN0 hv0 hC0 hg hm1 hN1 hC1 hr1
      go_enter Try.func6, Try.ntmps6
      go_wp2_with (go_at_call 16; (with_reducible refine (G0.out _).mono ?_); rintro e w1 ⟨rfl, hb1⟩; have hB1 : Below w.heap.size w w1 := Below.step (by go_grown) (by go_size) hb1; have hA1 : Has w1 w.heap.size 32 (rc c0 p0) := (Has.new w 32 (rc c0 p0)).keep hb1 (by simp); obtain ⟨x0, x1, x2, x3, x4, x5⟩ := hA1.rbox)
      go_wp2_with (go_at_call 15; (with_reducible refine (AL.out _).mono ?_); rintro e w2 ⟨rfl, hb2⟩; have hB2 := Below.step hB1 hB1.size hb2)
      go_ret
      exact ⟨rfl, hB2⟩
    · have hp' : ¬ (20 : Int) < (n1 : Int) := by omega
      by_cases h0 : c0.m < 0
      · clear hs hm0 hN0 hv0 hC0 hg hm1 hN1 hC1 hr1
        go_enter Try.func6, Try.ntmps6
        go_wp2_with (go_at_call 16; (with_reducible refine (G0.out _).mono ?_); rintro e w1 ⟨rfl, hb1⟩; have hB1 : Below w.heap.size w w1 := Below.step (by go_grown) (by go_size) hb1; have hA1 : Has w1 w.heap.size 32 (rc c0 p0) := (Has.new w 32 (rc c0 p0)).keep hb1 (by simp); obtain ⟨x0, x1, x2, x3, x4, x5⟩ := hA1.rbox)
        go_wp2_with (go_at_call 15; (with_reducible refine (AL.out _).mono ?_); rintro e w2 ⟨rfl, hb2⟩; have hB2 := Below.step hB1 hB1.size hb2)
        go_ret
        exact ⟨rfl, hB2⟩
      · by_cases h9 : 1000 < c0.m
        · clear hs hm0 hN0 hv0 hC0 hg hm1 hN1 hC1 hr1
          go_enter Try.func6, Try.ntmps6
          go_wp2_with (go_at_call 16; (with_reducible refine (G0.out _).mono ?_); rintro e w1 ⟨rfl, hb1⟩; have hB1 : Below w.heap.size w w1 := Below.step (by go_grown) (by go_size) hb1; have hA1 : Has w1 w.heap.size 32 (rc c0 p0) := (Has.new w 32 (rc c0 p0)).keep hb1 (by simp); obtain ⟨x0, x1, x2, x3, x4, x5⟩ := hA1.rbox)
          go_wp2_with (go_at_call 15; (with_reducible refine (AL.out _).mono ?_); rintro e w2 ⟨rfl, hb2⟩; have hB2 := Below.step hB1 hB1.size hb2)
          go_ret
          exact ⟨rfl, hB2⟩
        · by_cases hK4 : c0.chk = 0 ∨ c0.chk = 41 ∨ c0.chk = 43 ∨ c0.chk = 46
          · obtain ⟨hnum, _, _⟩ := chk_num (r := c0) (by omega) (by omega)
            obtain ⟨mn, hmn⟩ : ∃ mn : Nat, c0.m = (mn : Int) := ⟨c0.m.toNat, by omega⟩
            have hmn1 : mn ≤ 1000 := by omega
            have SC := Lib.hid c0.oc_sm
            obtain ⟨K, hK⟩ : ∃ K, c0.chk = K := ⟨_, rfl⟩
            obtain ⟨C, hC⟩ : ∃ C, c0.oc = C := ⟨_, rfl⟩
            obtain ⟨N, hN⟩ : ∃ N, c0.on = N := ⟨_, rfl⟩
            have K0 : Hid (∀ W, Below w.heap.size w W → Calls Try.prog 19 #[rv c0 p0] W fun e w' => e = .returned (.int .i64 K) ∧ Below W.heap.size W w') := fun W hb => by rw [← hK]; exact oRCheck_any c0 p0 W HS.out (HM.out.to hb hb.size) HN.out
            have C1 : Hid (∀ W, Below w.heap.size w W → Calls Try.prog 9 #[rv c0 p0] W fun e w' => ∃ (p' : Pl) (A : Option Addr) (k : Nat), e = .returned (.tuple #[cv C p', .slice A N k, .int .i64 K]) ∧ Mem w' w'.heap.size C p' ∧ Below W.heap.size W w') := fun W hb => by
              refine (circ_all c0 p0 W HS.out (HM.out.to hb hb.size) HN.out).mono fun e w' => ?_
              rintro ⟨p', A, k', he, hm, _, hb'⟩
              rw [hC, hN, hK] at he
              rw [hC] at hm
              exact ⟨p', A, k', he, hm, hb'⟩
            have C2 : Hid (∀ W ff p, Prm c0.m ff → RMem W W.heap.size (c0.mv ff) p → RNils (c0.mv ff) p → Calls Try.prog 9 #[rv (c0.mv ff) p] W fun e w' => ∃ (p' : Pl) (A : Option Addr) (k : Nat), e = .returned (.tuple #[cv C p', .slice A N k, .int .i64 K]) ∧ Mem w' w'.heap.size C p' ∧ Below W.heap.size W w') := fun W ff p hp hm hn => by
              refine (circ_all (c0.mv ff) p W (HS.out.mv hp hnum (by omega)) hm hn).mono fun e w' => ?_
              rintro ⟨p', A, k', he, hm, _, hb'⟩
              rw [Rw.mv_oc hp hnum, Rw.mv_on hp hnum, Rw.mv_chk hp hnum, hC, hN, hK] at he
              rw [Rw.mv_oc hp hnum, hC] at hm
              exact ⟨p', A, k', he, hm, hb'⟩
            have MV : Hid (∀ W ff g, Below w.heap.size w W → Prm c0.m ff → W.rowIs g 3 (mn + 1) (fun v => .int .i64 (ff (v : Int))) → Calls Try.prog 24 #[rv c0 p0, .slice (some ⟨g, 0, none⟩) (mn + 1) (mn + 1)] W fun e w' => ∃ p', e = .returned (rv (c0.mv ff) p') ∧ RMem w' w'.heap.size (c0.mv ff) p' ∧ RNils (c0.mv ff) p' ∧ Below W.heap.size W w') := fun W ff g hb hp hR => moved_any c0 p0 W mn g ff hmn hmn1 HS.out (HM.out.to hb hb.size) HN.out hnum (fun v hv => by have := hp.r v (by omega) (by omega); rw [hmn] at this; exact this) hR
            have hNe : K = 0 → (N : Int) = c0.m + 1 := fun hk => by rw [← hN, Rw.on_yes (hK.trans hk)]; omega
            rw [hC] at SC
            have hws : IntKind.i64.wrap (c0.m + 1) = c0.m + 1 := IntWalk.i64_in _ (by omega)
            have hmk : ∀ w : World, (Instr.makeSlice 24 (.int .i64 (c0.m + 1)) (.int .i64 (c0.m + 1))).run Try.prog w = .ok (.slice (some ⟨w.heap.size, 0, none⟩) (mn + 1) (mn + 1)) (w.alloc (.cells (madeCells #[.int .i64 0] (mn + 1)) 3)) := fun w => by
              have := run_make_row' 24 3 (.int .i64 0) 8 Try.underlying24 info_int rfl .i64 .i64 (mn + 1) (by omega) (by omega) w
              rw [hmn]; exact this
            have HMN := Lib.hid hmn
            have HM1 := Lib.hid hmn1
            have HP := Lib.hid (And.intro hm1 (And.intro hN1 hr1))
            have HNE := Lib.hid hNe
            rw [hK] at hK4
            clear hs hm0 hN0 hv0 hC0 hg hm1 hN1 hC1 hr1 hK hC hN hmn hnum hNe h0 h9
            have h0 : ¬ c0.m < 0 := by have := HMN.out; omega
            have h9 : ¬ 1000 < c0.m := by have := HMN.out; have := HM1.out; omega
            rcases hK4 with rfl | rfl | rfl | rfl
            · go_enter Try.func6, Try.ntmps6
              go_wp2_with (go_at_call 16; (with_reducible refine (G0.out _).mono ?_); rintro e w1 ⟨rfl, hb1⟩; have hB1 : Below w.heap.size w w1 := Below.step (by go_grown) (by go_size) hb1; have hA1 : Has w1 w.heap.size 32 (rc c0 p0) := (Has.new w 32 (rc c0 p0)).keep hb1 (by simp); obtain ⟨x0, x1, x2, x3, x4, x5⟩ := hA1.rbox)
              go_wp2_with (go_at_call 19; (with_reducible refine (K0.out _ hB1).mono ?_); rintro e w2 ⟨rfl, hb2⟩; have hB2 := Below.step hB1 hB1.size hb2; have hA2 := hA1.keep hb2 hA1.lt; clear x0 x1 x2 x3 x4 x5; obtain ⟨x0, x1, x2, x3, x4, x5⟩ := hA2.rbox)
              have hbx : Below w2.heap.size w2 (w2.alloc (.cells (madeCells #[.int .i64 0] (mn + 1)) 3)) := (Below.refl _ _).alloc (Nat.le_refl _) _
              have hBx := Below.step hB2 hB2.size hbx
              have hAx := hA2.keep hbx hA2.lt
              have hRx : (w2.alloc (.cells (madeCells #[.int .i64 0] (mn + 1)) 3)).rowIs w2.heap.size 3 (mn + 1) (fun v => .int .i64 (if v < 0 then (v : Int) else 0)) := (World.rowIs_made w2 (.int .i64 0) (mn + 1) 3).congr fun v _ => by rw [if_neg (Nat.not_lt_zero _)]
              have HX := Lib.hid (And.intro hBx (And.intro hAx hRx))
              have hlt2 := Lib.hid hA2.lt
              have hle2 := Lib.hid hB2.size
              obtain ⟨b, hb⟩ : ∃ b, w2.heap.size = b := ⟨_, rfl⟩
              rw [hb] at hlt2 hle2
              clear hb1 hb2 hB1 hB2 hA1 hA2 hbx hBx hAx hRx
              go_wp2
              go_loopw [7] (fun i wr => ∃ q : Nat, q ≤ mn + 1 ∧ i = .int .i64 (q : Int) ∧ Below w.heap.size w wr ∧ Has wr w.heap.size 32 (rc c0 p0) ∧ wr.rowIs b 3 (mn + 1) (fun v => .int .i64 (if v < q then (v : Int) else 0))) (fun i _ => mn + 1 - (intOf i).toNat)
              case atStart => exact ⟨0, Nat.zero_le _, rfl, HX.out.1, HX.out.2.1, hb ▸ HX.out.2.2⟩
              case round =>
                clear HX
                obtain ⟨q, hq, rfl, hBr, hAr, hRr⟩ := hrel
                by_cases hlt : q < mn + 1
                · have hqb : (q : Int) < 1001 := by have := HM1.out; omega
                  have hq1 : (q : Int) < (mn : Int) + 1 := by omega
                  have z1 := hRr.cell hlt
                  have z2 := hRr.frozen q
                  have hne : w.heap.size ≠ b := by have := hlt2.out; omega
                  have HR := Lib.hid (And.intro (hBr.setCell (show w.heap.size ≤ (⟨b, q, none⟩ : Addr).block from hle2.out) (.int .i64 (q : Int))) (And.intro (hAr.far (q := ⟨b, q, none⟩) hne (.int .i64 (q : Int))) ((hRr.set q (.int .i64 (q : Int))).congr (fun j hj => show (if j = q then Value.int .i64 (q : Int) else .int .i64 (if j < q then (j : Int) else 0)) = .int .i64 (if j < q + 1 then (j : Int) else 0) from by
                    by_cases ej : j = q
                    · subst ej; rw [if_pos rfl, if_pos (by omega)]
                    · rw [if_neg ej]
                      by_cases el : j < q
                      · rw [if_pos el, if_pos (by omega)]
                      · rw [if_neg el, if_neg (by omega)]))))
                  clear hBr hAr hRr hne
                  go_wp2
                  go_roundw
                  case rel => exact ⟨q + 1, by omega, by go_num, HR.out.1, HR.out.2.1, HR.out.2.2⟩
                  case measure => simp [intOf]; omega
                · obtain rfl : q = mn + 1 := by omega
                  have HX := Lib.hid (And.intro hBr (And.intro hAr (hRr.congr (fun j hj => show Value.int .i64 (if j < mn + 1 then (j : Int) else 0) = .int .i64 ((fun v : Int => v) (j : Int)) from by rw [if_pos hj]))))
                  have hq1 : ¬ (((mn + 1 : Nat) : Int)) < (mn : Int) + 1 := by omega
                  clear hBr hAr hRr hlt hq
                  go_wp2
                  go_loopw [8] (fun i wr => ∃ q : Nat, q ≤ n1 ∧ i = .int .i64 (q : Int) ∧ Below w.heap.size w wr ∧ Has wr w.heap.size 32 (rc c0 p0) ∧ ∃ ff : Int → Int, Prm c0.m ff ∧ wr.rowIs b 3 (mn + 1) (fun v => .int .i64 (ff (v : Int)))) (fun i _ => n1 - (intOf i).toNat)
                  case atStart => exact ⟨0, Nat.zero_le _, rfl, HX.out.1, HX.out.2.1, _, Prm.id _, HX.out.2.2⟩
                  case round =>
                    clear HX
                    obtain ⟨q, hq, rfl, hBr, hAr, ff, hPf, hRr⟩ := hrel
                    obtain ⟨x0, x1, x2, x3, x4, x5⟩ := hAr.rbox
                    have HB := Lib.hid (And.intro hBr (And.intro hAr (And.intro hPf hRr)))
                    clear hBr hAr hPf hRr
                    by_cases hlt : q < n1
                    · have hq0 : (0 : Int) ≤ (q : Int) := by omega
                      have hq1 : (q : Int) < (n1 : Int) := by omega
                      have hqb : (q : Int) < 21 := by omega
                      obtain ⟨ad, hA, had, hcs⟩ := (HP.out.1.keep HB.out.1) (by omega)
                      obtain ⟨y0, y1⟩ := hcs q hlt
                      subst hA
                      obtain ⟨x, hx⟩ : ∃ x, f1 q = x := ⟨_, rfl⟩
                      obtain ⟨y, hy⟩ : ∃ y, g1 q = y := ⟨_, rfl⟩
                      rw [hx] at y0
                      rw [hy] at y1
                      clear hcs hx hy
                      go_wp2
                      refine wp_slots (fun f => Sz f 150 ∧ Slot f 1 (.slice (some ad) n1 k1) ∧ Slot f 8 (.int .i64 (q : Int))) ⟨⟨rfl, rfl⟩, ⟨rfl⟩, ⟨rfl⟩⟩ fun a0' hA0 hR => ?_
                      obtain ⟨hZ, hs1, hs8⟩ := hR
                      have HA := Lib.hid hA0
                      clear hA0
                      have hbd := Below.drew (Below.refl wr.heap.size wr)
                      have hS0 : (fun W : World => W.cell? (ad.add (q * 2)) = some (.int .i64 x) ∧ W.cell? ⟨(ad.add (q * 2)).block, (ad.add (q * 2)).off + 1, none⟩ = some (.int .i64 y)) wr.drew := ⟨y0, y1⟩
                      refine wp_region_T (fun W : World => W.cell? (ad.add (q * 2)) = some (.int .i64 x) ∧ W.cell? ⟨(ad.add (q * 2)).block, (ad.add (q * 2)).off + 1, none⟩ = some (.int .i64 y)) 12 (by kernel_rfl) ?_
                      refine WT.h ?_
                      (refine wt_move 0 1 rfl rfl (by kernel_rfl) (by kernel_rfl) (by kernel_rfl) (by kernel_rfl) (fun _ _ _ h => h) rfl hS0 (by (repeat (first | (refine slot_hit (N := 150) ?_ (by rfl); (repeat (refine sz_put ?_)); assumption; done) | (apply slot_miss; focus rfl))); all_goals assumption) rfl ?_); (refine wt_move 1 8 rfl rfl (by kernel_rfl) (by kernel_rfl) (by kernel_rfl) (by kernel_rfl) (fun _ _ _ h => h) rfl hS0 (by (repeat (first | (refine slot_hit (N := 150) ?_ (by rfl); (repeat (refine sz_put ?_)); assumption; done) | (apply slot_miss; focus rfl))); all_goals assumption) rfl ?_); (refine wt_take2 2 72 73 (v := ?_) rfl rfl (by kernel_rfl) (by kernel_rfl) (by kernel_rfl) (by kernel_rfl) (fun _ _ _ h => h) rfl hS0 (by (repeat (first | (refine slot_hit (N := 150) ?_ (by rfl); (repeat (refine sz_put ?_)); assumption; done) | (apply slot_miss; focus rfl))); all_goals assumption) (by (repeat (first | (refine slot_hit (N := 150) ?_ (by rfl); (repeat (refine sz_put ?_)); assumption; done) | (apply slot_miss; focus rfl))); all_goals assumption) (fun ev hk hv0 hv1 w hS => ?_) ?_; rotate_left; focus (obtain ⟨j0, j1⟩ := hS; go_simp; rfl)); (refine wt_take1 3 74 (v := ?_) rfl rfl (by kernel_rfl) (by kernel_rfl) (by kernel_rfl) (by kernel_rfl) (fun _ _ _ h => h) rfl hS0 (by (repeat (first | (refine slot_hit (N := 150) ?_ (by rfl); (repeat (refine sz_put ?_)); assumption; done) | (apply slot_miss; focus rfl))); all_goals assumption) (fun ev hk hv0 w hS => ?_) ?_; rotate_left; focus (obtain ⟨j0, j1⟩ := hS; go_simp; rfl)); (refine wt_take1 4 75 (v := ?_) rfl rfl (by kernel_rfl) (by kernel_rfl) (by kernel_rfl) (by kernel_rfl) (fun _ _ _ h => h) rfl hS0 (by (repeat (first | (refine slot_hit (N := 150) ?_ (by rfl); (repeat (refine sz_put ?_)); assumption; done) | (apply slot_miss; focus rfl))); all_goals assumption) (fun ev hk hv0 w hS => ?_) ?_; rotate_left; focus (obtain ⟨j0, j1⟩ := hS; go_simp; rfl)); (refine wt_move 5 1 rfl rfl (by kernel_rfl) (by kernel_rfl) (by kernel_rfl) (by kernel_rfl) (fun _ _ _ h => h) rfl hS0 (by (repeat (first | (refine slot_hit (N := 150) ?_ (by rfl); (repeat (refine sz_put ?_)); assumption; done) | (apply slot_miss; focus rfl))); all_goals assumption) rfl ?_); (refine wt_move 6 8 rfl rfl (by kernel_rfl) (by kernel_rfl) (by kernel_rfl) (by kernel_rfl) (fun _ _ _ h => h) rfl hS0 (by (repeat (first | (refine slot_hit (N := 150) ?_ (by rfl); (repeat (refine sz_put ?_)); assumption; done) | (apply slot_miss; focus rfl))); all_goals assumption) rfl ?_); (refine wt_take2 7 77 78 (v := ?_) rfl rfl (by kernel_rfl) (by kernel_rfl) (by kernel_rfl) (by kernel_rfl) (fun _ _ _ h => h) rfl hS0 (by (repeat (first | (refine slot_hit (N := 150) ?_ (by rfl); (repeat (refine sz_put ?_)); assumption; done) | (apply slot_miss; focus rfl))); all_goals assumption) (by (repeat (first | (refine slot_hit (N := 150) ?_ (by rfl); (repeat (refine sz_put ?_)); assumption; done) | (apply slot_miss; focus rfl))); all_goals assumption) (fun ev hk hv0 hv1 w hS => ?_) ?_; rotate_left; focus (obtain ⟨j0, j1⟩ := hS; go_simp; rfl)); (refine wt_take1 8 79 (v := ?_) rfl rfl (by kernel_rfl) (by kernel_rfl) (by kernel_rfl) (by kernel_rfl) (fun _ _ _ h => h) rfl hS0 (by (repeat (first | (refine slot_hit (N := 150) ?_ (by rfl); (repeat (refine sz_put ?_)); assumption; done) | (apply slot_miss; focus rfl))); all_goals assumption) (fun ev hk hv0 w hS => ?_) ?_; rotate_left; focus (obtain ⟨j0, j1⟩ := hS; go_simp; rfl)); (refine wt_take1 9 80 (v := ?_) rfl rfl (by kernel_rfl) (by kernel_rfl) (by kernel_rfl) (by kernel_rfl) (fun _ _ _ h => h) rfl hS0 (by (repeat (first | (refine slot_hit (N := 150) ?_ (by rfl); (repeat (refine sz_put ?_)); assumption; done) | (apply slot_miss; focus rfl))); all_goals assumption) (fun ev hk hv0 w hS => ?_) ?_; rotate_left; focus (obtain ⟨j0, j1⟩ := hS; go_simp; rfl)); (refine wt_assign 10 76 rfl rfl (by kernel_rfl) (by kernel_rfl) (by kernel_rfl) (by kernel_rfl) (fun _ _ _ h => h) rfl hS0 (by (repeat (first | (refine slot_hit (N := 150) ?_ (by rfl); (repeat (refine sz_put ?_)); assumption; done) | (apply slot_miss; focus rfl))); all_goals assumption) rfl ?_); (refine wt_assign 11 81 rfl rfl (by kernel_rfl) (by kernel_rfl) (by kernel_rfl) (by kernel_rfl) (fun _ _ _ h => h) rfl hS0 (by (repeat (first | (refine slot_hit (N := 150) ?_ (by rfl); (repeat (refine sz_put ?_)); assumption; done) | (apply slot_miss; focus rfl))); all_goals assumption) rfl ?_)
                      refine wt_done (by kernel_rfl) (NoPanic.normal ?_) _
                      have ha := HA.out
                      subst ha
                      clear hS0 hs1 hs8 hZ y0 y1
                      have x0 : wr.drew.cell? ⟨w.heap.size, 0, none⟩ = some (.int .i64 c0.m) := x0
                      by_cases c1 : 1 ≤ x
                      · by_cases c2 : 1 ≤ y
                        · by_cases c3 : x ≤ c0.m
                          · by_cases c4 : y ≤ c0.m
                            · obtain ⟨xn, rfl⟩ : ∃ n : Nat, x = (n : Int) := ⟨x.toNat, by omega⟩
                              obtain ⟨yn, rfl⟩ : ∃ n : Nat, y = (n : Int) := ⟨y.toNat, by omega⟩
                              have hxn : xn < mn + 1 := by have := HMN.out; omega
                              have hyn : yn < mn + 1 := by have := HMN.out; omega
                              have hx0 : (0 : Int) ≤ (xn : Int) := by omega
                              have hy0 : (0 : Int) ≤ (yn : Int) := by omega
                              have hx1 : (xn : Int) < (mn : Int) + 1 := by omega
                              have hy1 : (yn : Int) < (mn : Int) + 1 := by omega
                              have hPn := Lib.hid (HB.out.2.2.1.swap c1 c3 c2 c4)
                              go_wp2
                              refine wp_slots (fun f => Sz f 150 ∧ Slot f 6 (.slice (some ⟨b, 0, none⟩) (mn + 1) (mn + 1)) ∧ Slot f 9 (.int .i64 (xn : Int)) ∧ Slot f 10 (.int .i64 (yn : Int))) ⟨⟨rfl, rfl⟩, ⟨rfl⟩, ⟨rfl⟩, ⟨rfl⟩⟩ fun a0' hA0 hR => ?_
                              obtain ⟨hZ, hs6, hs9, hs10⟩ := hR
                              have HA := Lib.hid hA0
                              clear hA0 x0 x1 x2 x3 x4 x5
                              refine wp_region_T (fun _ : World => True) 16 (by kernel_rfl) ?_
                              refine WT.h ?_
                              have hS0 : (fun _ : World => True) wr.drew.drew := trivial
                              (refine wt_move 0 6 rfl rfl (by kernel_rfl) (by kernel_rfl) (by kernel_rfl) (by kernel_rfl) (fun _ _ _ h => h) rfl hS0 (by (repeat (first | (refine slot_hit (N := 150) ?_ (by rfl); (repeat (refine sz_put ?_)); assumption; done) | (apply slot_miss; focus rfl))); all_goals assumption) rfl ?_); (refine wt_move 1 9 rfl rfl (by kernel_rfl) (by kernel_rfl) (by kernel_rfl) (by kernel_rfl) (fun _ _ _ h => h) rfl hS0 (by (repeat (first | (refine slot_hit (N := 150) ?_ (by rfl); (repeat (refine sz_put ?_)); assumption; done) | (apply slot_miss; focus rfl))); all_goals assumption) rfl ?_); (refine wt_move 2 6 rfl rfl (by kernel_rfl) (by kernel_rfl) (by kernel_rfl) (by kernel_rfl) (fun _ _ _ h => h) rfl hS0 (by (repeat (first | (refine slot_hit (N := 150) ?_ (by rfl); (repeat (refine sz_put ?_)); assumption; done) | (apply slot_miss; focus rfl))); all_goals assumption) rfl ?_); (refine wt_move 3 10 rfl rfl (by kernel_rfl) (by kernel_rfl) (by kernel_rfl) (by kernel_rfl) (fun _ _ _ h => h) rfl hS0 (by (repeat (first | (refine slot_hit (N := 150) ?_ (by rfl); (repeat (refine sz_put ?_)); assumption; done) | (apply slot_miss; focus rfl))); all_goals assumption) rfl ?_); (refine wt_move 4 6 rfl rfl (by kernel_rfl) (by kernel_rfl) (by kernel_rfl) (by kernel_rfl) (fun _ _ _ h => h) rfl hS0 (by (repeat (first | (refine slot_hit (N := 150) ?_ (by rfl); (repeat (refine sz_put ?_)); assumption; done) | (apply slot_miss; focus rfl))); all_goals assumption) rfl ?_); (refine wt_move 5 10 rfl rfl (by kernel_rfl) (by kernel_rfl) (by kernel_rfl) (by kernel_rfl) (fun _ _ _ h => h) rfl hS0 (by (repeat (first | (refine slot_hit (N := 150) ?_ (by rfl); (repeat (refine sz_put ?_)); assumption; done) | (apply slot_miss; focus rfl))); all_goals assumption) rfl ?_); (refine wt_take2 6 104 105 (v := ?_) rfl rfl (by kernel_rfl) (by kernel_rfl) (by kernel_rfl) (by kernel_rfl) (fun _ _ _ h => h) rfl hS0 (by (repeat (first | (refine slot_hit (N := 150) ?_ (by rfl); (repeat (refine sz_put ?_)); assumption; done) | (apply slot_miss; focus rfl))); all_goals assumption) (by (repeat (first | (refine slot_hit (N := 150) ?_ (by rfl); (repeat (refine sz_put ?_)); assumption; done) | (apply slot_miss; focus rfl))); all_goals assumption) (fun ev hk hv0 hv1 w hS => ?_) ?_; rotate_left; focus (obtain _ := hS; go_simp; rfl)); (refine wt_move 8 6 rfl rfl (by kernel_rfl) (by kernel_rfl) (by kernel_rfl) (by kernel_rfl) (fun _ _ _ h => h) rfl hS0 (by (repeat (first | (refine slot_hit (N := 150) ?_ (by rfl); (repeat (refine sz_put ?_)); assumption; done) | (apply slot_miss; focus rfl))); all_goals assumption) rfl ?_); (refine wt_move 9 9 rfl rfl (by kernel_rfl) (by kernel_rfl) (by kernel_rfl) (by kernel_rfl) (fun _ _ _ h => h) rfl hS0 (by (repeat (first | (refine slot_hit (N := 150) ?_ (by rfl); (repeat (refine sz_put ?_)); assumption; done) | (apply slot_miss; focus rfl))); all_goals assumption) rfl ?_); (refine wt_take2 10 108 109 (v := ?_) rfl rfl (by kernel_rfl) (by kernel_rfl) (by kernel_rfl) (by kernel_rfl) (fun _ _ _ h => h) rfl hS0 (by (repeat (first | (refine slot_hit (N := 150) ?_ (by rfl); (repeat (refine sz_put ?_)); assumption; done) | (apply slot_miss; focus rfl))); all_goals assumption) (by (repeat (first | (refine slot_hit (N := 150) ?_ (by rfl); (repeat (refine sz_put ?_)); assumption; done) | (apply slot_miss; focus rfl))); all_goals assumption) (fun ev hk hv0 hv1 w hS => ?_) ?_; rotate_left; focus (obtain _ := hS; go_simp; rfl))
                              refine wt_weak (S' := fun W : World => W.cell? ⟨b, xn, none⟩ = some (.int .i64 (ff (xn : Int))) ∧ W.cell? ⟨b, yn, none⟩ = some (.int .i64 (ff (yn : Int)))) (n' := 13) ?_
                              clear hS0
                              have hRd : wr.drew.drew.rowIs b 3 (mn + 1) (fun v => .int .i64 (ff (v : Int))) := HB.out.2.2.2.drew.drew
                              have hS0 : (fun W : World => W.cell? ⟨b, xn, none⟩ = some (.int .i64 (ff (xn : Int))) ∧ W.cell? ⟨b, yn, none⟩ = some (.int .i64 (ff (yn : Int)))) wr.drew.drew := ⟨hRd.cell hxn, hRd.cell hyn⟩
                              (refine wt_take1 7 106 (v := ?_) rfl rfl (by kernel_rfl) (by kernel_rfl) (by kernel_rfl) (by kernel_rfl) (fun _ _ _ h => h) rfl hS0 (by (repeat (first | (refine slot_hit (N := 150) ?_ (by rfl); (repeat (refine sz_put ?_)); assumption; done) | (apply slot_miss; focus rfl))); all_goals assumption) (fun ev hk hv0 w hS => ?_) ?_; rotate_left; focus (obtain ⟨j0, j1⟩ := hS; go_simp; rfl)); (refine wt_take1 11 110 (v := ?_) rfl rfl (by kernel_rfl) (by kernel_rfl) (by kernel_rfl) (by kernel_rfl) (fun _ _ _ h => h) rfl hS0 (by (repeat (first | (refine slot_hit (N := 150) ?_ (by rfl); (repeat (refine sz_put ?_)); assumption; done) | (apply slot_miss; focus rfl))); all_goals assumption) (fun ev hk hv0 w hS => ?_) ?_; rotate_left; focus (obtain ⟨j0, j1⟩ := hS; go_simp; rfl))
                              refine wt_val2 12 100 101 (by kernel_rfl) rfl rfl rfl (by (repeat (first | (refine slot_hit (N := 150) ?_ (by rfl); (repeat (refine sz_put ?_)); assumption; done) | (apply slot_miss; focus rfl))); all_goals assumption) (by (repeat (first | (refine slot_hit (N := 150) ?_ (by rfl); (repeat (refine sz_put ?_)); assumption; done) | (apply slot_miss; focus rfl))); all_goals assumption) (v := ?_) (w' := ?_) (fun ev hk hv0 hv1 => ?_) ?_; rotate_left 2; focus (go_simp; first | rfl | (constructor <;> rfl))
                              refine ⟨fun _ => hS0, ?_⟩
                              have s1 := hRd.cell hxn
                              have s2 := hRd.frozen xn
                              refine wt_act2 13 112 107 (by kernel_rfl) rfl rfl rfl (by (repeat (first | (refine slot_hit (N := 150) ?_ (by rfl); (repeat (refine sz_put ?_)); assumption; done) | (apply slot_miss; focus rfl))); all_goals assumption) (by (repeat (first | (refine slot_hit (N := 150) ?_ (by rfl); (repeat (refine sz_put ?_)); assumption; done) | (apply slot_miss; focus rfl))); all_goals assumption) (w' := ?_) (fun ev hk hv0 hv1 => ?_) ?_; rotate_left; focus (go_simp; rfl)
                              refine ⟨fun h => absurd h (by decide), ?_⟩
                              refine wt_val2 14 102 103 (by kernel_rfl) rfl rfl rfl (by (repeat (first | (refine slot_hit (N := 150) ?_ (by rfl); (repeat (refine sz_put ?_)); assumption; done) | (apply slot_miss; focus rfl))); all_goals assumption) (by (repeat (first | (refine slot_hit (N := 150) ?_ (by rfl); (repeat (refine sz_put ?_)); assumption; done) | (apply slot_miss; focus rfl))); all_goals assumption) (v := ?_) (w' := ?_) (fun ev hk hv0 hv1 => ?_) ?_; rotate_left 2; focus (go_simp; first | rfl | (constructor <;> rfl))
                              refine ⟨fun h => absurd h (by decide), ?_⟩
                              have hRe := hRd.set xn (.int .i64 (ff (yn : Int)))
                              have s3 := (World.rowIs.set HB.out.2.2.2 xn (.int .i64 (ff (yn : Int)))).cell hyn
                              have s4 := HB.out.2.2.2.frozen yn
                              clear s1 s2
                              refine wt_act2 15 113 111 (by kernel_rfl) rfl rfl rfl (by (repeat (first | (refine slot_hit (N := 150) ?_ (by rfl); (repeat (refine sz_put ?_)); assumption; done) | (apply slot_miss; focus rfl))); all_goals assumption) (by (repeat (first | (refine slot_hit (N := 150) ?_ (by rfl); (repeat (refine sz_put ?_)); assumption; done) | (apply slot_miss; focus rfl))); all_goals assumption) (w' := ?_) (fun ev hk hv0 hv1 => ?_) ?_; rotate_left; focus (go_simp; rfl)
                              refine ⟨fun h => absurd h (by decide), ?_⟩
                              refine wt_done (by kernel_rfl) (NoPanic.normal ?_) _
                              have ha := HA.out
                              subst ha
                              have hne : w.heap.size ≠ b := by have := hlt2.out; omega
                              have hBd : Below w.heap.size w wr.drew.drew := below_dn (below_dn HB.out.1 1) 1
                              have hAd : Has wr.drew.drew w.heap.size 32 (rc c0 p0) := HB.out.2.1
                              have HN2 := Lib.hid (And.intro ((hBd.setCell (show w.heap.size ≤ (⟨b, xn, none⟩ : Addr).block from hle2.out) (.int .i64 (ff (yn : Int)))).setCell (show w.heap.size ≤ (⟨b, yn, none⟩ : Addr).block from hle2.out) (.int .i64 (ff (xn : Int)))) (And.intro ((hAd.far (q := ⟨b, xn, none⟩) hne (.int .i64 (ff (yn : Int)))).far (q := ⟨b, yn, none⟩) hne (.int .i64 (ff (xn : Int)))) (And.intro hPn.out ((hRe.set yn (.int .i64 (ff (xn : Int)))).congr (fun j hj => show (if j = yn then Value.int .i64 (ff (xn : Int)) else if j = xn then .int .i64 (ff (yn : Int)) else .int .i64 (ff (j : Int))) = .int .i64 (if (j : Int) = (yn : Int) then ff (xn : Int) else if (j : Int) = (xn : Int) then ff (yn : Int) else ff (j : Int)) from swap_val j yn xn _ _ _)))))
                              clear hS0 hs6 hs9 hs10 hZ hRd hRe s3 s4 hBd hAd hne
                              go_wp2
                              go_roundw
                              case rel => exact ⟨q + 1, by omega, by go_num, HN2.out.1, HN2.out.2.1, _, HN2.out.2.2.1, HN2.out.2.2.2⟩
                              case measure => simp [intOf]; omega
                            · go_wp2
                              go_roundw
                              case rel => exact ⟨q + 1, by omega, by go_num, below_dn HB.out.1 1, HB.out.2.1, ff, HB.out.2.2.1, HB.out.2.2.2.drew⟩
                              case measure => simp [intOf]; omega
                          · go_wp2
                            go_roundw
                            case rel => exact ⟨q + 1, by omega, by go_num, below_dn HB.out.1 1, HB.out.2.1, ff, HB.out.2.2.1, HB.out.2.2.2.drew⟩
                            case measure => simp [intOf]; omega
                        · go_wp2
                          go_roundw
                          case rel => exact ⟨q + 1, by omega, by go_num, below_dn HB.out.1 1, HB.out.2.1, ff, HB.out.2.2.1, HB.out.2.2.2.drew⟩
                          case measure => simp [intOf]; omega
                      · go_wp2
                        go_roundw
                        case rel => exact ⟨q + 1, by omega, by go_num, below_dn HB.out.1 1, HB.out.2.1, ff, HB.out.2.2.1, HB.out.2.2.2.drew⟩
                        case measure => simp [intOf]; omega
                    · have hq1 : ¬ (q : Int) < (n1 : Int) := by omega
                      obtain ⟨hBr, hAr, hPf, hRr⟩ := HB.out
                      clear hlt hq
                      go_wp2_with (go_at_call 9; (with_reducible refine (C1.out _ hBr).mono ?_); rintro e w3 ⟨⟨Q1, Q2, Q3, Q4, l1, l2, l3, l4⟩, A5, k5', rfl, hm3, hb3⟩; have hB3 := Below.step hBr hBr.size hb3; have hA3 := hAr.keep hb3 hAr.lt; have hR3 := hRr.of_block (hb3.block b hRr.lt); have hz3 := hA3.lt; clear x0 x1 x2 x3 x4 x5; obtain ⟨x0, x1, x2, x3, x4, x5⟩ := hA3.rbox)
                      have hb3x : Below w3.heap.size w3 (w3.alloc (.cells #[.int .i64 C.i, .slice Q1 C.nl l1, .slice Q2 C.na l2, .slice Q3 C.nb l3, .slice Q4 C.nc l4] 26)) := (Below.refl _ _).alloc (Nat.le_refl _) _
                      have hB3x := Below.step hB3 hB3.size hb3x
                      have hA3x := hA3.keep hb3x hA3.lt
                      have hR3x := hR3.of_block (hb3x.block b hR3.lt)
                      have hm3x := hm3.to hb3x hb3x.size
                      have hU3x : Has (w3.alloc (.cells #[.int .i64 C.i, .slice Q1 C.nl l1, .slice Q2 C.na l2, .slice Q3 C.nb l3, .slice Q4 C.nc l4] 26)) w3.heap.size 26 (cc C ⟨Q1, Q2, Q3, Q4, l1, l2, l3, l4⟩) := Has.new w3 26 (cc C ⟨Q1, Q2, Q3, Q4, l1, l2, l3, l4⟩)
                      clear hBr hAr hRr HB hb3 hB3 hA3 hR3 hm3
                      go_wp2_with (go_at_call 24; (with_reducible refine (MV.out _ ff b hB3x hPf hR3x).mono ?_); rintro e w4 ⟨⟨R1, R2, R3, R4, R5, r1, r2, r3, r4, r5⟩, rfl, hmm4, hnn4, hb4⟩; have hB4 := Below.step hB3x hB3x.size hb4; have hA4 := hA3x.keep hb4 hA3x.lt; have hm4 := hm3x.to hb4 hb4.size; have hU4 := hU3x.keep hb4 hU3x.lt; have hz4 := hA4.lt; have hz4' := hU4.lt; clear x0 x1 x2 x3 x4 x5; obtain ⟨x0, x1, x2, x3, x4, x5⟩ := hA4.rbox)
                      go_wp2_with (go_at_call 9; (with_reducible refine (C2.out _ ff ⟨R1, R2, R3, R4, R5, r1, r2, r3, r4, r5⟩ hPf hmm4 hnn4).mono ?_); rintro e w5 ⟨⟨S1, S2, S3, S4, s1, s2, s3, s4⟩, A8, k8, rfl, hm5, hb5⟩; have hB5 := Below.step hB4 hB4.size hb5; have hA5 := hA4.keep hb5 hA4.lt; have hU5 := hU4.keep hb5 hU4.lt; have hmu5 := hm4.to hb5 hb5.size; have hz5 := hA5.lt; have hz5' := hU5.lt; clear x0 x1 x2 x3 x4 x5; obtain ⟨x0, x1, x2, x3, x4, x5⟩ := hA5.rbox; obtain ⟨u0, u1, u2, u3, u4⟩ := hU5.box)
                      have hb5x : Below w5.heap.size w5 (w5.alloc (.cells #[.int .i64 C.i, .slice S1 C.nl s1, .slice S2 C.na s2, .slice S3 C.nb s3, .slice S4 C.nc s4] 26)) := (Below.refl _ _).alloc (Nat.le_refl _) _
                      have hB5x := Below.step hB5 hB5.size hb5x
                      have HMM := Lib.hid (And.intro (hmu5.to hb5x hb5x.size) (hm5.to hb5x hb5x.size))
                      have hA5x := hA5.keep hb5x hA5.lt
                      clear hb4 hb5 hB4 hB3x hA4 hA3x hm4 hm3x hU4 hU3x hR3x hb3x hmm4 hnn4 hB5 hA5 hmu5 hm5 hU5 hb5x
                      have hlen : ((N : Int) == c0.m + 1) = true := by have := HNE.out (by first | rfl | trivial); simpa using this
                      go_wp2_with (go_at_call 11; (with_reducible refine (same_self C ⟨Q1, Q2, Q3, Q4, l1, l2, l3, l4⟩ ⟨S1, S2, S3, S4, s1, s2, s3, s4⟩ _ SC.out HMM.out.1 HMM.out.2).mono ?_); rintro e w6 ⟨rfl, hb6⟩; have hB6 := Below.step hB5x hB5x.size hb6; have hA6 := hA5x.keep hb6 hA5x.lt; clear x0 x1 x2 x3 x4 x5; obtain ⟨x0, x1, x2, x3, x4, x5⟩ := hA6.rbox)
                      go_wp2_with (go_at_call 15; (with_reducible refine (AL.out _).mono ?_); rintro e w7 ⟨rfl, hb7⟩; have hB7 := Below.step hB6 hB6.size hb7)
                      go_ret
                      exact ⟨rfl, hB7⟩
            · go_enter Try.func6, Try.ntmps6
              go_wp2_with (go_at_call 16; (with_reducible refine (G0.out _).mono ?_); rintro e w1 ⟨rfl, hb1⟩; have hB1 : Below w.heap.size w w1 := Below.step (by go_grown) (by go_size) hb1; have hA1 : Has w1 w.heap.size 32 (rc c0 p0) := (Has.new w 32 (rc c0 p0)).keep hb1 (by simp); obtain ⟨x0, x1, x2, x3, x4, x5⟩ := hA1.rbox)
              go_wp2_with (go_at_call 19; (with_reducible refine (K0.out _ hB1).mono ?_); rintro e w2 ⟨rfl, hb2⟩; have hB2 := Below.step hB1 hB1.size hb2; have hA2 := hA1.keep hb2 hA1.lt; clear x0 x1 x2 x3 x4 x5; obtain ⟨x0, x1, x2, x3, x4, x5⟩ := hA2.rbox)
              have hbx : Below w2.heap.size w2 (w2.alloc (.cells (madeCells #[.int .i64 0] (mn + 1)) 3)) := (Below.refl _ _).alloc (Nat.le_refl _) _
              have hBx := Below.step hB2 hB2.size hbx
              have hAx := hA2.keep hbx hA2.lt
              have hRx : (w2.alloc (.cells (madeCells #[.int .i64 0] (mn + 1)) 3)).rowIs w2.heap.size 3 (mn + 1) (fun v => .int .i64 (if v < 0 then (v : Int) else 0)) := (World.rowIs_made w2 (.int .i64 0) (mn + 1) 3).congr fun v _ => by rw [if_neg (Nat.not_lt_zero _)]
              have HX := Lib.hid (And.intro hBx (And.intro hAx hRx))
              have hlt2 := Lib.hid hA2.lt
              have hle2 := Lib.hid hB2.size
              obtain ⟨b, hb⟩ : ∃ b, w2.heap.size = b := ⟨_, rfl⟩
              rw [hb] at hlt2 hle2
              clear hb1 hb2 hB1 hB2 hA1 hA2 hbx hBx hAx hRx
              go_wp2
              go_loopw [7] (fun i wr => ∃ q : Nat, q ≤ mn + 1 ∧ i = .int .i64 (q : Int) ∧ Below w.heap.size w wr ∧ Has wr w.heap.size 32 (rc c0 p0) ∧ wr.rowIs b 3 (mn + 1) (fun v => .int .i64 (if v < q then (v : Int) else 0))) (fun i _ => mn + 1 - (intOf i).toNat)
              case atStart => exact ⟨0, Nat.zero_le _, rfl, HX.out.1, HX.out.2.1, hb ▸ HX.out.2.2⟩
              case round =>
                clear HX
                obtain ⟨q, hq, rfl, hBr, hAr, hRr⟩ := hrel
                by_cases hlt : q < mn + 1
                · have hqb : (q : Int) < 1001 := by have := HM1.out; omega
                  have hq1 : (q : Int) < (mn : Int) + 1 := by omega
                  have z1 := hRr.cell hlt
                  have z2 := hRr.frozen q
                  have hne : w.heap.size ≠ b := by have := hlt2.out; omega
                  have HR := Lib.hid (And.intro (hBr.setCell (show w.heap.size ≤ (⟨b, q, none⟩ : Addr).block from hle2.out) (.int .i64 (q : Int))) (And.intro (hAr.far (q := ⟨b, q, none⟩) hne (.int .i64 (q : Int))) ((hRr.set q (.int .i64 (q : Int))).congr (fun j hj => show (if j = q then Value.int .i64 (q : Int) else .int .i64 (if j < q then (j : Int) else 0)) = .int .i64 (if j < q + 1 then (j : Int) else 0) from by
                    by_cases ej : j = q
                    · subst ej; rw [if_pos rfl, if_pos (by omega)]
                    · rw [if_neg ej]
                      by_cases el : j < q
                      · rw [if_pos el, if_pos (by omega)]
                      · rw [if_neg el, if_neg (by omega)]))))
                  clear hBr hAr hRr hne
                  go_wp2
                  go_roundw
                  case rel => exact ⟨q + 1, by omega, by go_num, HR.out.1, HR.out.2.1, HR.out.2.2⟩
                  case measure => simp [intOf]; omega
                · obtain rfl : q = mn + 1 := by omega
                  have HX := Lib.hid (And.intro hBr (And.intro hAr (hRr.congr (fun j hj => show Value.int .i64 (if j < mn + 1 then (j : Int) else 0) = .int .i64 ((fun v : Int => v) (j : Int)) from by rw [if_pos hj]))))
                  have hq1 : ¬ (((mn + 1 : Nat) : Int)) < (mn : Int) + 1 := by omega
                  clear hBr hAr hRr hlt hq
                  go_wp2
                  go_loopw [8] (fun i wr => ∃ q : Nat, q ≤ n1 ∧ i = .int .i64 (q : Int) ∧ Below w.heap.size w wr ∧ Has wr w.heap.size 32 (rc c0 p0) ∧ ∃ ff : Int → Int, Prm c0.m ff ∧ wr.rowIs b 3 (mn + 1) (fun v => .int .i64 (ff (v : Int)))) (fun i _ => n1 - (intOf i).toNat)
                  case atStart => exact ⟨0, Nat.zero_le _, rfl, HX.out.1, HX.out.2.1, _, Prm.id _, HX.out.2.2⟩
                  case round =>
                    clear HX
                    obtain ⟨q, hq, rfl, hBr, hAr, ff, hPf, hRr⟩ := hrel
                    obtain ⟨x0, x1, x2, x3, x4, x5⟩ := hAr.rbox
                    have HB := Lib.hid (And.intro hBr (And.intro hAr (And.intro hPf hRr)))
                    clear hBr hAr hPf hRr
                    by_cases hlt : q < n1
                    · have hq0 : (0 : Int) ≤ (q : Int) := by omega
                      have hq1 : (q : Int) < (n1 : Int) := by omega
                      have hqb : (q : Int) < 21 := by omega
                      obtain ⟨ad, hA, had, hcs⟩ := (HP.out.1.keep HB.out.1) (by omega)
                      obtain ⟨y0, y1⟩ := hcs q hlt
                      subst hA
                      obtain ⟨x, hx⟩ : ∃ x, f1 q = x := ⟨_, rfl⟩
                      obtain ⟨y, hy⟩ : ∃ y, g1 q = y := ⟨_, rfl⟩
                      rw [hx] at y0
                      rw [hy] at y1
                      clear hcs hx hy
                      go_wp2
                      refine wp_slots (fun f => Sz f 150 ∧ Slot f 1 (.slice (some ad) n1 k1) ∧ Slot f 8 (.int .i64 (q : Int))) ⟨⟨rfl, rfl⟩, ⟨rfl⟩, ⟨rfl⟩⟩ fun a0' hA0 hR => ?_
                      obtain ⟨hZ, hs1, hs8⟩ := hR
                      have HA := Lib.hid hA0
                      clear hA0
                      have hbd := Below.drew (Below.refl wr.heap.size wr)
                      have hS0 : (fun W : World => W.cell? (ad.add (q * 2)) = some (.int .i64 x) ∧ W.cell? ⟨(ad.add (q * 2)).block, (ad.add (q * 2)).off + 1, none⟩ = some (.int .i64 y)) wr.drew := ⟨y0, y1⟩
                      refine wp_region_T (fun W : World => W.cell? (ad.add (q * 2)) = some (.int .i64 x) ∧ W.cell? ⟨(ad.add (q * 2)).block, (ad.add (q * 2)).off + 1, none⟩ = some (.int .i64 y)) 12 (by kernel_rfl) ?_
                      refine WT.h ?_
                      (refine wt_move 0 1 rfl rfl (by kernel_rfl) (by kernel_rfl) (by kernel_rfl) (by kernel_rfl) (fun _ _ _ h => h) rfl hS0 (by (repeat (first | (refine slot_hit (N := 150) ?_ (by rfl); (repeat (refine sz_put ?_)); assumption; done) | (apply slot_miss; focus rfl))); all_goals assumption) rfl ?_); (refine wt_move 1 8 rfl rfl (by kernel_rfl) (by kernel_rfl) (by kernel_rfl) (by kernel_rfl) (fun _ _ _ h => h) rfl hS0 (by (repeat (first | (refine slot_hit (N := 150) ?_ (by rfl); (repeat (refine sz_put ?_)); assumption; done) | (apply slot_miss; focus rfl))); all_goals assumption) rfl ?_); (refine wt_take2 2 72 73 (v := ?_) rfl rfl (by kernel_rfl) (by kernel_rfl) (by kernel_rfl) (by kernel_rfl) (fun _ _ _ h => h) rfl hS0 (by (repeat (first | (refine slot_hit (N := 150) ?_ (by rfl); (repeat (refine sz_put ?_)); assumption; done) | (apply slot_miss; focus rfl))); all_goals assumption) (by (repeat (first | (refine slot_hit (N := 150) ?_ (by rfl); (repeat (refine sz_put ?_)); assumption; done) | (apply slot_miss; focus rfl))); all_goals assumption) (fun ev hk hv0 hv1 w hS => ?_) ?_; rotate_left; focus (obtain ⟨j0, j1⟩ := hS; go_simp; rfl)); (refine wt_take1 3 74 (v := ?_) rfl rfl (by kernel_rfl) (by kernel_rfl) (by kernel_rfl) (by kernel_rfl) (fun _ _ _ h => h) rfl hS0 (by (repeat (first | (refine slot_hit (N := 150) ?_ (by rfl); (repeat (refine sz_put ?_)); assumption; done) | (apply slot_miss; focus rfl))); all_goals assumption) (fun ev hk hv0 w hS => ?_) ?_; rotate_left; focus (obtain ⟨j0, j1⟩ := hS; go_simp; rfl)); (refine wt_take1 4 75 (v := ?_) rfl rfl (by kernel_rfl) (by kernel_rfl) (by kernel_rfl) (by kernel_rfl) (fun _ _ _ h => h) rfl hS0 (by (repeat (first | (refine slot_hit (N := 150) ?_ (by rfl); (repeat (refine sz_put ?_)); assumption; done) | (apply slot_miss; focus rfl))); all_goals assumption) (fun ev hk hv0 w hS => ?_) ?_; rotate_left; focus (obtain ⟨j0, j1⟩ := hS; go_simp; rfl)); (refine wt_move 5 1 rfl rfl (by kernel_rfl) (by kernel_rfl) (by kernel_rfl) (by kernel_rfl) (fun _ _ _ h => h) rfl hS0 (by (repeat (first | (refine slot_hit (N := 150) ?_ (by rfl); (repeat (refine sz_put ?_)); assumption; done) | (apply slot_miss; focus rfl))); all_goals assumption) rfl ?_); (refine wt_move 6 8 rfl rfl (by kernel_rfl) (by kernel_rfl) (by kernel_rfl) (by kernel_rfl) (fun _ _ _ h => h) rfl hS0 (by (repeat (first | (refine slot_hit (N := 150) ?_ (by rfl); (repeat (refine sz_put ?_)); assumption; done) | (apply slot_miss; focus rfl))); all_goals assumption) rfl ?_); (refine wt_take2 7 77 78 (v := ?_) rfl rfl (by kernel_rfl) (by kernel_rfl) (by kernel_rfl) (by kernel_rfl) (fun _ _ _ h => h) rfl hS0 (by (repeat (first | (refine slot_hit (N := 150) ?_ (by rfl); (repeat (refine sz_put ?_)); assumption; done) | (apply slot_miss; focus rfl))); all_goals assumption) (by (repeat (first | (refine slot_hit (N := 150) ?_ (by rfl); (repeat (refine sz_put ?_)); assumption; done) | (apply slot_miss; focus rfl))); all_goals assumption) (fun ev hk hv0 hv1 w hS => ?_) ?_; rotate_left; focus (obtain ⟨j0, j1⟩ := hS; go_simp; rfl)); (refine wt_take1 8 79 (v := ?_) rfl rfl (by kernel_rfl) (by kernel_rfl) (by kernel_rfl) (by kernel_rfl) (fun _ _ _ h => h) rfl hS0 (by (repeat (first | (refine slot_hit (N := 150) ?_ (by rfl); (repeat (refine sz_put ?_)); assumption; done) | (apply slot_miss; focus rfl))); all_goals assumption) (fun ev hk hv0 w hS => ?_) ?_; rotate_left; focus (obtain ⟨j0, j1⟩ := hS; go_simp; rfl)); (refine wt_take1 9 80 (v := ?_) rfl rfl (by kernel_rfl) (by kernel_rfl) (by kernel_rfl) (by kernel_rfl) (fun _ _ _ h => h) rfl hS0 (by (repeat (first | (refine slot_hit (N := 150) ?_ (by rfl); (repeat (refine sz_put ?_)); assumption; done) | (apply slot_miss; focus rfl))); all_goals assumption) (fun ev hk hv0 w hS => ?_) ?_; rotate_left; focus (obtain ⟨j0, j1⟩ := hS; go_simp; rfl)); (refine wt_assign 10 76 rfl rfl (by kernel_rfl) (by kernel_rfl) (by kernel_rfl) (by kernel_rfl) (fun _ _ _ h => h) rfl hS0 (by (repeat (first | (refine slot_hit (N := 150) ?_ (by rfl); (repeat (refine sz_put ?_)); assumption; done) | (apply slot_miss; focus rfl))); all_goals assumption) rfl ?_); (refine wt_assign 11 81 rfl rfl (by kernel_rfl) (by kernel_rfl) (by kernel_rfl) (by kernel_rfl) (fun _ _ _ h => h) rfl hS0 (by (repeat (first | (refine slot_hit (N := 150) ?_ (by rfl); (repeat (refine sz_put ?_)); assumption; done) | (apply slot_miss; focus rfl))); all_goals assumption) rfl ?_)
                      refine wt_done (by kernel_rfl) (NoPanic.normal ?_) _
                      have ha := HA.out
                      subst ha
                      clear hS0 hs1 hs8 hZ y0 y1
                      have x0 : wr.drew.cell? ⟨w.heap.size, 0, none⟩ = some (.int .i64 c0.m) := x0
                      by_cases c1 : 1 ≤ x
                      · by_cases c2 : 1 ≤ y
                        · by_cases c3 : x ≤ c0.m
                          · by_cases c4 : y ≤ c0.m
                            · obtain ⟨xn, rfl⟩ : ∃ n : Nat, x = (n : Int) := ⟨x.toNat, by omega⟩
                              obtain ⟨yn, rfl⟩ : ∃ n : Nat, y = (n : Int) := ⟨y.toNat, by omega⟩
                              have hxn : xn < mn + 1 := by have := HMN.out; omega
                              have hyn : yn < mn + 1 := by have := HMN.out; omega
                              have hx0 : (0 : Int) ≤ (xn : Int) := by omega
                              have hy0 : (0 : Int) ≤ (yn : Int) := by omega
                              have hx1 : (xn : Int) < (mn : Int) + 1 := by omega
                              have hy1 : (yn : Int) < (mn : Int) + 1 := by omega
                              have hPn := Lib.hid (HB.out.2.2.1.swap c1 c3 c2 c4)
                              go_wp2
                              refine wp_slots (fun f => Sz f 150 ∧ Slot f 6 (.slice (some ⟨b, 0, none⟩) (mn + 1) (mn + 1)) ∧ Slot f 9 (.int .i64 (xn : Int)) ∧ Slot f 10 (.int .i64 (yn : Int))) ⟨⟨rfl, rfl⟩, ⟨rfl⟩, ⟨rfl⟩, ⟨rfl⟩⟩ fun a0' hA0 hR => ?_
                              obtain ⟨hZ, hs6, hs9, hs10⟩ := hR
                              have HA := Lib.hid hA0
                              clear hA0 x0 x1 x2 x3 x4 x5
                              refine wp_region_T (fun _ : World => True) 16 (by kernel_rfl) ?_
                              refine WT.h ?_
                              have hS0 : (fun _ : World => True) wr.drew.drew := trivial
                              (refine wt_move 0 6 rfl rfl (by kernel_rfl) (by kernel_rfl) (by kernel_rfl) (by kernel_rfl) (fun _ _ _ h => h) rfl hS0 (by (repeat (first | (refine slot_hit (N := 150) ?_ (by rfl); (repeat (refine sz_put ?_)); assumption; done) | (apply slot_miss; focus rfl))); all_goals assumption) rfl ?_); (refine wt_move 1 9 rfl rfl (by kernel_rfl) (by kernel_rfl) (by kernel_rfl) (by kernel_rfl) (fun _ _ _ h => h) rfl hS0 (by (repeat (first | (refine slot_hit (N := 150) ?_ (by rfl); (repeat (refine sz_put ?_)); assumption; done) | (apply slot_miss; focus rfl))); all_goals assumption) rfl ?_); (refine wt_move 2 6 rfl rfl (by kernel_rfl) (by kernel_rfl) (by kernel_rfl) (by kernel_rfl) (fun _ _ _ h => h) rfl hS0 (by (repeat (first | (refine slot_hit (N := 150) ?_ (by rfl); (repeat (refine sz_put ?_)); assumption; done) | (apply slot_miss; focus rfl))); all_goals assumption) rfl ?_); (refine wt_move 3 10 rfl rfl (by kernel_rfl) (by kernel_rfl) (by kernel_rfl) (by kernel_rfl) (fun _ _ _ h => h) rfl hS0 (by (repeat (first | (refine slot_hit (N := 150) ?_ (by rfl); (repeat (refine sz_put ?_)); assumption; done) | (apply slot_miss; focus rfl))); all_goals assumption) rfl ?_); (refine wt_move 4 6 rfl rfl (by kernel_rfl) (by kernel_rfl) (by kernel_rfl) (by kernel_rfl) (fun _ _ _ h => h) rfl hS0 (by (repeat (first | (refine slot_hit (N := 150) ?_ (by rfl); (repeat (refine sz_put ?_)); assumption; done) | (apply slot_miss; focus rfl))); all_goals assumption) rfl ?_); (refine wt_move 5 10 rfl rfl (by kernel_rfl) (by kernel_rfl) (by kernel_rfl) (by kernel_rfl) (fun _ _ _ h => h) rfl hS0 (by (repeat (first | (refine slot_hit (N := 150) ?_ (by rfl); (repeat (refine sz_put ?_)); assumption; done) | (apply slot_miss; focus rfl))); all_goals assumption) rfl ?_); (refine wt_take2 6 104 105 (v := ?_) rfl rfl (by kernel_rfl) (by kernel_rfl) (by kernel_rfl) (by kernel_rfl) (fun _ _ _ h => h) rfl hS0 (by (repeat (first | (refine slot_hit (N := 150) ?_ (by rfl); (repeat (refine sz_put ?_)); assumption; done) | (apply slot_miss; focus rfl))); all_goals assumption) (by (repeat (first | (refine slot_hit (N := 150) ?_ (by rfl); (repeat (refine sz_put ?_)); assumption; done) | (apply slot_miss; focus rfl))); all_goals assumption) (fun ev hk hv0 hv1 w hS => ?_) ?_; rotate_left; focus (obtain _ := hS; go_simp; rfl)); (refine wt_move 8 6 rfl rfl (by kernel_rfl) (by kernel_rfl) (by kernel_rfl) (by kernel_rfl) (fun _ _ _ h => h) rfl hS0 (by (repeat (first | (refine slot_hit (N := 150) ?_ (by rfl); (repeat (refine sz_put ?_)); assumption; done) | (apply slot_miss; focus rfl))); all_goals assumption) rfl ?_); (refine wt_move 9 9 rfl rfl (by kernel_rfl) (by kernel_rfl) (by kernel_rfl) (by kernel_rfl) (fun _ _ _ h => h) rfl hS0 (by (repeat (first | (refine slot_hit (N := 150) ?_ (by rfl); (repeat (refine sz_put ?_)); assumption; done) | (apply slot_miss; focus rfl))); all_goals assumption) rfl ?_); (refine wt_take2 10 108 109 (v := ?_) rfl rfl (by kernel_rfl) (by kernel_rfl) (by kernel_rfl) (by kernel_rfl) (fun _ _ _ h => h) rfl hS0 (by (repeat (first | (refine slot_hit (N := 150) ?_ (by rfl); (repeat (refine sz_put ?_)); assumption; done) | (apply slot_miss; focus rfl))); all_goals assumption) (by (repeat (first | (refine slot_hit (N := 150) ?_ (by rfl); (repeat (refine sz_put ?_)); assumption; done) | (apply slot_miss; focus rfl))); all_goals assumption) (fun ev hk hv0 hv1 w hS => ?_) ?_; rotate_left; focus (obtain _ := hS; go_simp; rfl))
                              refine wt_weak (S' := fun W : World => W.cell? ⟨b, xn, none⟩ = some (.int .i64 (ff (xn : Int))) ∧ W.cell? ⟨b, yn, none⟩ = some (.int .i64 (ff (yn : Int)))) (n' := 13) ?_
                              clear hS0
                              have hRd : wr.drew.drew.rowIs b 3 (mn + 1) (fun v => .int .i64 (ff (v : Int))) := HB.out.2.2.2.drew.drew
                              have hS0 : (fun W : World => W.cell? ⟨b, xn, none⟩ = some (.int .i64 (ff (xn : Int))) ∧ W.cell? ⟨b, yn, none⟩ = some (.int .i64 (ff (yn : Int)))) wr.drew.drew := ⟨hRd.cell hxn, hRd.cell hyn⟩
                              (refine wt_take1 7 106 (v := ?_) rfl rfl (by kernel_rfl) (by kernel_rfl) (by kernel_rfl) (by kernel_rfl) (fun _ _ _ h => h) rfl hS0 (by (repeat (first | (refine slot_hit (N := 150) ?_ (by rfl); (repeat (refine sz_put ?_)); assumption; done) | (apply slot_miss; focus rfl))); all_goals assumption) (fun ev hk hv0 w hS => ?_) ?_; rotate_left; focus (obtain ⟨j0, j1⟩ := hS; go_simp; rfl)); (refine wt_take1 11 110 (v := ?_) rfl rfl (by kernel_rfl) (by kernel_rfl) (by kernel_rfl) (by kernel_rfl) (fun _ _ _ h => h) rfl hS0 (by (repeat (first | (refine slot_hit (N := 150) ?_ (by rfl); (repeat (refine sz_put ?_)); assumption; done) | (apply slot_miss; focus rfl))); all_goals assumption) (fun ev hk hv0 w hS => ?_) ?_; rotate_left; focus (obtain ⟨j0, j1⟩ := hS; go_simp; rfl))
                              refine wt_val2 12 100 101 (by kernel_rfl) rfl rfl rfl (by (repeat (first | (refine slot_hit (N := 150) ?_ (by rfl); (repeat (refine sz_put ?_)); assumption; done) | (apply slot_miss; focus rfl))); all_goals assumption) (by (repeat (first | (refine slot_hit (N := 150) ?_ (by rfl); (repeat (refine sz_put ?_)); assumption; done) | (apply slot_miss; focus rfl))); all_goals assumption) (v := ?_) (w' := ?_) (fun ev hk hv0 hv1 => ?_) ?_; rotate_left 2; focus (go_simp; first | rfl | (constructor <;> rfl))
                              refine ⟨fun _ => hS0, ?_⟩
                              have s1 := hRd.cell hxn
                              have s2 := hRd.frozen xn
                              refine wt_act2 13 112 107 (by kernel_rfl) rfl rfl rfl (by (repeat (first | (refine slot_hit (N := 150) ?_ (by rfl); (repeat (refine sz_put ?_)); assumption; done) | (apply slot_miss; focus rfl))); all_goals assumption) (by (repeat (first | (refine slot_hit (N := 150) ?_ (by rfl); (repeat (refine sz_put ?_)); assumption; done) | (apply slot_miss; focus rfl))); all_goals assumption) (w' := ?_) (fun ev hk hv0 hv1 => ?_) ?_; rotate_left; focus (go_simp; rfl)
                              refine ⟨fun h => absurd h (by decide), ?_⟩
                              refine wt_val2 14 102 103 (by kernel_rfl) rfl rfl rfl (by (repeat (first | (refine slot_hit (N := 150) ?_ (by rfl); (repeat (refine sz_put ?_)); assumption; done) | (apply slot_miss; focus rfl))); all_goals assumption) (by (repeat (first | (refine slot_hit (N := 150) ?_ (by rfl); (repeat (refine sz_put ?_)); assumption; done) | (apply slot_miss; focus rfl))); all_goals assumption) (v := ?_) (w' := ?_) (fun ev hk hv0 hv1 => ?_) ?_; rotate_left 2; focus (go_simp; first | rfl | (constructor <;> rfl))
                              refine ⟨fun h => absurd h (by decide), ?_⟩
                              have hRe := hRd.set xn (.int .i64 (ff (yn : Int)))
                              have s3 := (World.rowIs.set HB.out.2.2.2 xn (.int .i64 (ff (yn : Int)))).cell hyn
                              have s4 := HB.out.2.2.2.frozen yn
                              clear s1 s2
                              refine wt_act2 15 113 111 (by kernel_rfl) rfl rfl rfl (by (repeat (first | (refine slot_hit (N := 150) ?_ (by rfl); (repeat (refine sz_put ?_)); assumption; done) | (apply slot_miss; focus rfl))); all_goals assumption) (by (repeat (first | (refine slot_hit (N := 150) ?_ (by rfl); (repeat (refine sz_put ?_)); assumption; done) | (apply slot_miss; focus rfl))); all_goals assumption) (w' := ?_) (fun ev hk hv0 hv1 => ?_) ?_; rotate_left; focus (go_simp; rfl)
                              refine ⟨fun h => absurd h (by decide), ?_⟩
                              refine wt_done (by kernel_rfl) (NoPanic.normal ?_) _
                              have ha := HA.out
                              subst ha
                              have hne : w.heap.size ≠ b := by have := hlt2.out; omega
                              have hBd : Below w.heap.size w wr.drew.drew := below_dn (below_dn HB.out.1 1) 1
                              have hAd : Has wr.drew.drew w.heap.size 32 (rc c0 p0) := HB.out.2.1
                              have HN2 := Lib.hid (And.intro ((hBd.setCell (show w.heap.size ≤ (⟨b, xn, none⟩ : Addr).block from hle2.out) (.int .i64 (ff (yn : Int)))).setCell (show w.heap.size ≤ (⟨b, yn, none⟩ : Addr).block from hle2.out) (.int .i64 (ff (xn : Int)))) (And.intro ((hAd.far (q := ⟨b, xn, none⟩) hne (.int .i64 (ff (yn : Int)))).far (q := ⟨b, yn, none⟩) hne (.int .i64 (ff (xn : Int)))) (And.intro hPn.out ((hRe.set yn (.int .i64 (ff (xn : Int)))).congr (fun j hj => show (if j = yn then Value.int .i64 (ff (xn : Int)) else if j = xn then .int .i64 (ff (yn : Int)) else .int .i64 (ff (j : Int))) = .int .i64 (if (j : Int) = (yn : Int) then ff (xn : Int) else if (j : Int) = (xn : Int) then ff (yn : Int) else ff (j : Int)) from swap_val j yn xn _ _ _)))))
                              clear hS0 hs6 hs9 hs10 hZ hRd hRe s3 s4 hBd hAd hne
                              go_wp2
                              go_roundw
                              case rel => exact ⟨q + 1, by omega, by go_num, HN2.out.1, HN2.out.2.1, _, HN2.out.2.2.1, HN2.out.2.2.2⟩
                              case measure => simp [intOf]; omega
                            · go_wp2
                              go_roundw
                              case rel => exact ⟨q + 1, by omega, by go_num, below_dn HB.out.1 1, HB.out.2.1, ff, HB.out.2.2.1, HB.out.2.2.2.drew⟩
                              case measure => simp [intOf]; omega
                          · go_wp2
                            go_roundw
                            case rel => exact ⟨q + 1, by omega, by go_num, below_dn HB.out.1 1, HB.out.2.1, ff, HB.out.2.2.1, HB.out.2.2.2.drew⟩
                            case measure => simp [intOf]; omega
                        · go_wp2
                          go_roundw
                          case rel => exact ⟨q + 1, by omega, by go_num, below_dn HB.out.1 1, HB.out.2.1, ff, HB.out.2.2.1, HB.out.2.2.2.drew⟩
                          case measure => simp [intOf]; omega
                      · go_wp2
                        go_roundw
                        case rel => exact ⟨q + 1, by omega, by go_num, below_dn HB.out.1 1, HB.out.2.1, ff, HB.out.2.2.1, HB.out.2.2.2.drew⟩
                        case measure => simp [intOf]; omega
                    · have hq1 : ¬ (q : Int) < (n1 : Int) := by omega
                      obtain ⟨hBr, hAr, hPf, hRr⟩ := HB.out
                      clear hlt hq
                      go_wp2_with (go_at_call 9; (with_reducible refine (C1.out _ hBr).mono ?_); rintro e w3 ⟨⟨Q1, Q2, Q3, Q4, l1, l2, l3, l4⟩, A5, k5', rfl, hm3, hb3⟩; have hB3 := Below.step hBr hBr.size hb3; have hA3 := hAr.keep hb3 hAr.lt; have hR3 := hRr.of_block (hb3.block b hRr.lt); have hz3 := hA3.lt; clear x0 x1 x2 x3 x4 x5; obtain ⟨x0, x1, x2, x3, x4, x5⟩ := hA3.rbox)
                      have hb3x : Below w3.heap.size w3 (w3.alloc (.cells #[.int .i64 C.i, .slice Q1 C.nl l1, .slice Q2 C.na l2, .slice Q3 C.nb l3, .slice Q4 C.nc l4] 26)) := (Below.refl _ _).alloc (Nat.le_refl _) _
                      have hB3x := Below.step hB3 hB3.size hb3x
                      have hA3x := hA3.keep hb3x hA3.lt
                      have hR3x := hR3.of_block (hb3x.block b hR3.lt)
                      have hm3x := hm3.to hb3x hb3x.size
                      have hU3x : Has (w3.alloc (.cells #[.int .i64 C.i, .slice Q1 C.nl l1, .slice Q2 C.na l2, .slice Q3 C.nb l3, .slice Q4 C.nc l4] 26)) w3.heap.size 26 (cc C ⟨Q1, Q2, Q3, Q4, l1, l2, l3, l4⟩) := Has.new w3 26 (cc C ⟨Q1, Q2, Q3, Q4, l1, l2, l3, l4⟩)
                      clear hBr hAr hRr HB hb3 hB3 hA3 hR3 hm3
                      go_wp2_with (go_at_call 24; (with_reducible refine (MV.out _ ff b hB3x hPf hR3x).mono ?_); rintro e w4 ⟨⟨R1, R2, R3, R4, R5, r1, r2, r3, r4, r5⟩, rfl, hmm4, hnn4, hb4⟩; have hB4 := Below.step hB3x hB3x.size hb4; have hA4 := hA3x.keep hb4 hA3x.lt; have hm4 := hm3x.to hb4 hb4.size; have hU4 := hU3x.keep hb4 hU3x.lt; have hz4 := hA4.lt; have hz4' := hU4.lt; clear x0 x1 x2 x3 x4 x5; obtain ⟨x0, x1, x2, x3, x4, x5⟩ := hA4.rbox)
                      go_wp2_with (go_at_call 9; (with_reducible refine (C2.out _ ff ⟨R1, R2, R3, R4, R5, r1, r2, r3, r4, r5⟩ hPf hmm4 hnn4).mono ?_); rintro e w5 ⟨⟨S1, S2, S3, S4, s1, s2, s3, s4⟩, A8, k8, rfl, hm5, hb5⟩; have hB5 := Below.step hB4 hB4.size hb5; have hA5 := hA4.keep hb5 hA4.lt; have hU5 := hU4.keep hb5 hU4.lt; have hmu5 := hm4.to hb5 hb5.size; have hz5 := hA5.lt; have hz5' := hU5.lt; clear x0 x1 x2 x3 x4 x5; obtain ⟨x0, x1, x2, x3, x4, x5⟩ := hA5.rbox; obtain ⟨u0, u1, u2, u3, u4⟩ := hU5.box)
                      have hb5x : Below w5.heap.size w5 (w5.alloc (.cells #[.int .i64 C.i, .slice S1 C.nl s1, .slice S2 C.na s2, .slice S3 C.nb s3, .slice S4 C.nc s4] 26)) := (Below.refl _ _).alloc (Nat.le_refl _) _
                      have hB5x := Below.step hB5 hB5.size hb5x
                      have HMM := Lib.hid (And.intro (hmu5.to hb5x hb5x.size) (hm5.to hb5x hb5x.size))
                      have hA5x := hA5.keep hb5x hA5.lt
                      clear hb4 hb5 hB4 hB3x hA4 hA3x hm4 hm3x hU4 hU3x hR3x hb3x hmm4 hnn4 hB5 hA5 hmu5 hm5 hU5 hb5x
                      go_wp2_with (go_at_call 11; (with_reducible refine (same_self C ⟨Q1, Q2, Q3, Q4, l1, l2, l3, l4⟩ ⟨S1, S2, S3, S4, s1, s2, s3, s4⟩ _ SC.out HMM.out.1 HMM.out.2).mono ?_); rintro e w6 ⟨rfl, hb6⟩; have hB6 := Below.step hB5x hB5x.size hb6; have hA6 := hA5x.keep hb6 hA5x.lt; clear x0 x1 x2 x3 x4 x5; obtain ⟨x0, x1, x2, x3, x4, x5⟩ := hA6.rbox)
                      go_wp2_with (go_at_call 15; (with_reducible refine (AL.out _).mono ?_); rintro e w7 ⟨rfl, hb7⟩; have hB7 := Below.step hB6 hB6.size hb7)
                      go_ret
                      exact ⟨rfl, hB7⟩
            · go_enter Try.func6, Try.ntmps6
              go_wp2_with (go_at_call 16; (with_reducible refine (G0.out _).mono ?_); rintro e w1 ⟨rfl, hb1⟩; have hB1 : Below w.heap.size w w1 := Below.step (by go_grown) (by go_size) hb1; have hA1 : Has w1 w.heap.size 32 (rc c0 p0) := (Has.new w 32 (rc c0 p0)).keep hb1 (by simp); obtain ⟨x0, x1, x2, x3, x4, x5⟩ := hA1.rbox)
              go_wp2_with (go_at_call 19; (with_reducible refine (K0.out _ hB1).mono ?_); rintro e w2 ⟨rfl, hb2⟩; have hB2 := Below.step hB1 hB1.size hb2; have hA2 := hA1.keep hb2 hA1.lt; clear x0 x1 x2 x3 x4 x5; obtain ⟨x0, x1, x2, x3, x4, x5⟩ := hA2.rbox)
              have hbx : Below w2.heap.size w2 (w2.alloc (.cells (madeCells #[.int .i64 0] (mn + 1)) 3)) := (Below.refl _ _).alloc (Nat.le_refl _) _
              have hBx := Below.step hB2 hB2.size hbx
              have hAx := hA2.keep hbx hA2.lt
              have hRx : (w2.alloc (.cells (madeCells #[.int .i64 0] (mn + 1)) 3)).rowIs w2.heap.size 3 (mn + 1) (fun v => .int .i64 (if v < 0 then (v : Int) else 0)) := (World.rowIs_made w2 (.int .i64 0) (mn + 1) 3).congr fun v _ => by rw [if_neg (Nat.not_lt_zero _)]
              have HX := Lib.hid (And.intro hBx (And.intro hAx hRx))
              have hlt2 := Lib.hid hA2.lt
              have hle2 := Lib.hid hB2.size
              obtain ⟨b, hb⟩ : ∃ b, w2.heap.size = b := ⟨_, rfl⟩
              rw [hb] at hlt2 hle2
              clear hb1 hb2 hB1 hB2 hA1 hA2 hbx hBx hAx hRx
              go_wp2
              go_loopw [7] (fun i wr => ∃ q : Nat, q ≤ mn + 1 ∧ i = .int .i64 (q : Int) ∧ Below w.heap.size w wr ∧ Has wr w.heap.size 32 (rc c0 p0) ∧ wr.rowIs b 3 (mn + 1) (fun v => .int .i64 (if v < q then (v : Int) else 0))) (fun i _ => mn + 1 - (intOf i).toNat)
              case atStart => exact ⟨0, Nat.zero_le _, rfl, HX.out.1, HX.out.2.1, hb ▸ HX.out.2.2⟩
              case round =>
                clear HX
                obtain ⟨q, hq, rfl, hBr, hAr, hRr⟩ := hrel
                by_cases hlt : q < mn + 1
                · have hqb : (q : Int) < 1001 := by have := HM1.out; omega
                  have hq1 : (q : Int) < (mn : Int) + 1 := by omega
                  have z1 := hRr.cell hlt
                  have z2 := hRr.frozen q
                  have hne : w.heap.size ≠ b := by have := hlt2.out; omega
                  have HR := Lib.hid (And.intro (hBr.setCell (show w.heap.size ≤ (⟨b, q, none⟩ : Addr).block from hle2.out) (.int .i64 (q : Int))) (And.intro (hAr.far (q := ⟨b, q, none⟩) hne (.int .i64 (q : Int))) ((hRr.set q (.int .i64 (q : Int))).congr (fun j hj => show (if j = q then Value.int .i64 (q : Int) else .int .i64 (if j < q then (j : Int) else 0)) = .int .i64 (if j < q + 1 then (j : Int) else 0) from by
                    by_cases ej : j = q
                    · subst ej; rw [if_pos rfl, if_pos (by omega)]
                    · rw [if_neg ej]
                      by_cases el : j < q
                      · rw [if_pos el, if_pos (by omega)]
                      · rw [if_neg el, if_neg (by omega)]))))
                  clear hBr hAr hRr hne
                  go_wp2
                  go_roundw
                  case rel => exact ⟨q + 1, by omega, by go_num, HR.out.1, HR.out.2.1, HR.out.2.2⟩
                  case measure => simp [intOf]; omega
                · obtain rfl : q = mn + 1 := by omega
                  have HX := Lib.hid (And.intro hBr (And.intro hAr (hRr.congr (fun j hj => show Value.int .i64 (if j < mn + 1 then (j : Int) else 0) = .int .i64 ((fun v : Int => v) (j : Int)) from by rw [if_pos hj]))))
                  have hq1 : ¬ (((mn + 1 : Nat) : Int)) < (mn : Int) + 1 := by omega
                  clear hBr hAr hRr hlt hq
                  go_wp2
                  go_loopw [8] (fun i wr => ∃ q : Nat, q ≤ n1 ∧ i = .int .i64 (q : Int) ∧ Below w.heap.size w wr ∧ Has wr w.heap.size 32 (rc c0 p0) ∧ ∃ ff : Int → Int, Prm c0.m ff ∧ wr.rowIs b 3 (mn + 1) (fun v => .int .i64 (ff (v : Int)))) (fun i _ => n1 - (intOf i).toNat)
                  case atStart => exact ⟨0, Nat.zero_le _, rfl, HX.out.1, HX.out.2.1, _, Prm.id _, HX.out.2.2⟩
                  case round =>
                    clear HX
                    obtain ⟨q, hq, rfl, hBr, hAr, ff, hPf, hRr⟩ := hrel
                    obtain ⟨x0, x1, x2, x3, x4, x5⟩ := hAr.rbox
                    have HB := Lib.hid (And.intro hBr (And.intro hAr (And.intro hPf hRr)))
                    clear hBr hAr hPf hRr
                    by_cases hlt : q < n1
                    · have hq0 : (0 : Int) ≤ (q : Int) := by omega
                      have hq1 : (q : Int) < (n1 : Int) := by omega
                      have hqb : (q : Int) < 21 := by omega
                      obtain ⟨ad, hA, had, hcs⟩ := (HP.out.1.keep HB.out.1) (by omega)
                      obtain ⟨y0, y1⟩ := hcs q hlt
                      subst hA
                      obtain ⟨x, hx⟩ : ∃ x, f1 q = x := ⟨_, rfl⟩
                      obtain ⟨y, hy⟩ : ∃ y, g1 q = y := ⟨_, rfl⟩
                      rw [hx] at y0
                      rw [hy] at y1
                      clear hcs hx hy
                      go_wp2
                      refine wp_slots (fun f => Sz f 150 ∧ Slot f 1 (.slice (some ad) n1 k1) ∧ Slot f 8 (.int .i64 (q : Int))) ⟨⟨rfl, rfl⟩, ⟨rfl⟩, ⟨rfl⟩⟩ fun a0' hA0 hR => ?_
                      obtain ⟨hZ, hs1, hs8⟩ := hR
                      have HA := Lib.hid hA0
                      clear hA0
                      have hbd := Below.drew (Below.refl wr.heap.size wr)
                      have hS0 : (fun W : World => W.cell? (ad.add (q * 2)) = some (.int .i64 x) ∧ W.cell? ⟨(ad.add (q * 2)).block, (ad.add (q * 2)).off + 1, none⟩ = some (.int .i64 y)) wr.drew := ⟨y0, y1⟩
                      refine wp_region_T (fun W : World => W.cell? (ad.add (q * 2)) = some (.int .i64 x) ∧ W.cell? ⟨(ad.add (q * 2)).block, (ad.add (q * 2)).off + 1, none⟩ = some (.int .i64 y)) 12 (by kernel_rfl) ?_
                      refine WT.h ?_
                      (refine wt_move 0 1 rfl rfl (by kernel_rfl) (by kernel_rfl) (by kernel_rfl) (by kernel_rfl) (fun _ _ _ h => h) rfl hS0 (by (repeat (first | (refine slot_hit (N := 150) ?_ (by rfl); (repeat (refine sz_put ?_)); assumption; done) | (apply slot_miss; focus rfl))); all_goals assumption) rfl ?_); (refine wt_move 1 8 rfl rfl (by kernel_rfl) (by kernel_rfl) (by kernel_rfl) (by kernel_rfl) (fun _ _ _ h => h) rfl hS0 (by (repeat (first | (refine slot_hit (N := 150) ?_ (by rfl); (repeat (refine sz_put ?_)); assumption; done) | (apply slot_miss; focus rfl))); all_goals assumption) rfl ?_); (refine wt_take2 2 72 73 (v := ?_) rfl rfl (by kernel_rfl) (by kernel_rfl) (by kernel_rfl) (by kernel_rfl) (fun _ _ _ h => h) rfl hS0 (by (repeat (first | (refine slot_hit (N := 150) ?_ (by rfl); (repeat (refine sz_put ?_)); assumption; done) | (apply slot_miss; focus rfl))); all_goals assumption) (by (repeat (first | (refine slot_hit (N := 150) ?_ (by rfl); (repeat (refine sz_put ?_)); assumption; done) | (apply slot_miss; focus rfl))); all_goals assumption) (fun ev hk hv0 hv1 w hS => ?_) ?_; rotate_left; focus (obtain ⟨j0, j1⟩ := hS; go_simp; rfl)); (refine wt_take1 3 74 (v := ?_) rfl rfl (by kernel_rfl) (by kernel_rfl) (by kernel_rfl) (by kernel_rfl) (fun _ _ _ h => h) rfl hS0 (by (repeat (first | (refine slot_hit (N := 150) ?_ (by rfl); (repeat (refine sz_put ?_)); assumption; done) | (apply slot_miss; focus rfl))); all_goals assumption) (fun ev hk hv0 w hS => ?_) ?_; rotate_left; focus (obtain ⟨j0, j1⟩ := hS; go_simp; rfl)); (refine wt_take1 4 75 (v := ?_) rfl rfl (by kernel_rfl) (by kernel_rfl) (by kernel_rfl) (by kernel_rfl) (fun _ _ _ h => h) rfl hS0 (by (repeat (first | (refine slot_hit (N := 150) ?_ (by rfl); (repeat (refine sz_put ?_)); assumption; done) | (apply slot_miss; focus rfl))); all_goals assumption) (fun ev hk hv0 w hS => ?_) ?_; rotate_left; focus (obtain ⟨j0, j1⟩ := hS; go_simp; rfl)); (refine wt_move 5 1 rfl rfl (by kernel_rfl) (by kernel_rfl) (by kernel_rfl) (by kernel_rfl) (fun _ _ _ h => h) rfl hS0 (by (repeat (first | (refine slot_hit (N := 150) ?_ (by rfl); (repeat (refine sz_put ?_)); assumption; done) | (apply slot_miss; focus rfl))); all_goals assumption) rfl ?_); (refine wt_move 6 8 rfl rfl (by kernel_rfl) (by kernel_rfl) (by kernel_rfl) (by kernel_rfl) (fun _ _ _ h => h) rfl hS0 (by (repeat (first | (refine slot_hit (N := 150) ?_ (by rfl); (repeat (refine sz_put ?_)); assumption; done) | (apply slot_miss; focus rfl))); all_goals assumption) rfl ?_); (refine wt_take2 7 77 78 (v := ?_) rfl rfl (by kernel_rfl) (by kernel_rfl) (by kernel_rfl) (by kernel_rfl) (fun _ _ _ h => h) rfl hS0 (by (repeat (first | (refine slot_hit (N := 150) ?_ (by rfl); (repeat (refine sz_put ?_)); assumption; done) | (apply slot_miss; focus rfl))); all_goals assumption) (by (repeat (first | (refine slot_hit (N := 150) ?_ (by rfl); (repeat (refine sz_put ?_)); assumption; done) | (apply slot_miss; focus rfl))); all_goals assumption) (fun ev hk hv0 hv1 w hS => ?_) ?_; rotate_left; focus (obtain ⟨j0, j1⟩ := hS; go_simp; rfl)); (refine wt_take1 8 79 (v := ?_) rfl rfl (by kernel_rfl) (by kernel_rfl) (by kernel_rfl) (by kernel_rfl) (fun _ _ _ h => h) rfl hS0 (by (repeat (first | (refine slot_hit (N := 150) ?_ (by rfl); (repeat (refine sz_put ?_)); assumption; done) | (apply slot_miss; focus rfl))); all_goals assumption) (fun ev hk hv0 w hS => ?_) ?_; rotate_left; focus (obtain ⟨j0, j1⟩ := hS; go_simp; rfl)); (refine wt_take1 9 80 (v := ?_) rfl rfl (by kernel_rfl) (by kernel_rfl) (by kernel_rfl) (by kernel_rfl) (fun _ _ _ h => h) rfl hS0 (by (repeat (first | (refine slot_hit (N := 150) ?_ (by rfl); (repeat (refine sz_put ?_)); assumption; done) | (apply slot_miss; focus rfl))); all_goals assumption) (fun ev hk hv0 w hS => ?_) ?_; rotate_left; focus (obtain ⟨j0, j1⟩ := hS; go_simp; rfl)); (refine wt_assign 10 76 rfl rfl (by kernel_rfl) (by kernel_rfl) (by kernel_rfl) (by kernel_rfl) (fun _ _ _ h => h) rfl hS0 (by (repeat (first | (refine slot_hit (N := 150) ?_ (by rfl); (repeat (refine sz_put ?_)); assumption; done) | (apply slot_miss; focus rfl))); all_goals assumption) rfl ?_); (refine wt_assign 11 81 rfl rfl (by kernel_rfl) (by kernel_rfl) (by kernel_rfl) (by kernel_rfl) (fun _ _ _ h => h) rfl hS0 (by (repeat (first | (refine slot_hit (N := 150) ?_ (by rfl); (repeat (refine sz_put ?_)); assumption; done) | (apply slot_miss; focus rfl))); all_goals assumption) rfl ?_)
                      refine wt_done (by kernel_rfl) (NoPanic.normal ?_) _
                      have ha := HA.out
                      subst ha
                      clear hS0 hs1 hs8 hZ y0 y1
                      have x0 : wr.drew.cell? ⟨w.heap.size, 0, none⟩ = some (.int .i64 c0.m) := x0
                      by_cases c1 : 1 ≤ x
                      · by_cases c2 : 1 ≤ y
                        · by_cases c3 : x ≤ c0.m
                          · by_cases c4 : y ≤ c0.m
                            · obtain ⟨xn, rfl⟩ : ∃ n : Nat, x = (n : Int) := ⟨x.toNat, by omega⟩
                              obtain ⟨yn, rfl⟩ : ∃ n : Nat, y = (n : Int) := ⟨y.toNat, by omega⟩
                              have hxn : xn < mn + 1 := by have := HMN.out; omega
                              have hyn : yn < mn + 1 := by have := HMN.out; omega
                              have hx0 : (0 : Int) ≤ (xn : Int) := by omega
                              have hy0 : (0 : Int) ≤ (yn : Int) := by omega
                              have hx1 : (xn : Int) < (mn : Int) + 1 := by omega
                              have hy1 : (yn : Int) < (mn : Int) + 1 := by omega
                              have hPn := Lib.hid (HB.out.2.2.1.swap c1 c3 c2 c4)
                              go_wp2
                              refine wp_slots (fun f => Sz f 150 ∧ Slot f 6 (.slice (some ⟨b, 0, none⟩) (mn + 1) (mn + 1)) ∧ Slot f 9 (.int .i64 (xn : Int)) ∧ Slot f 10 (.int .i64 (yn : Int))) ⟨⟨rfl, rfl⟩, ⟨rfl⟩, ⟨rfl⟩, ⟨rfl⟩⟩ fun a0' hA0 hR => ?_
                              obtain ⟨hZ, hs6, hs9, hs10⟩ := hR
                              have HA := Lib.hid hA0
                              clear hA0 x0 x1 x2 x3 x4 x5
                              refine wp_region_T (fun _ : World => True) 16 (by kernel_rfl) ?_
                              refine WT.h ?_
                              have hS0 : (fun _ : World => True) wr.drew.drew := trivial
                              (refine wt_move 0 6 rfl rfl (by kernel_rfl) (by kernel_rfl) (by kernel_rfl) (by kernel_rfl) (fun _ _ _ h => h) rfl hS0 (by (repeat (first | (refine slot_hit (N := 150) ?_ (by rfl); (repeat (refine sz_put ?_)); assumption; done) | (apply slot_miss; focus rfl))); all_goals assumption) rfl ?_); (refine wt_move 1 9 rfl rfl (by kernel_rfl) (by kernel_rfl) (by kernel_rfl) (by kernel_rfl) (fun _ _ _ h => h) rfl hS0 (by (repeat (first | (refine slot_hit (N := 150) ?_ (by rfl); (repeat (refine sz_put ?_)); assumption; done) | (apply slot_miss; focus rfl))); all_goals assumption) rfl ?_); (refine wt_move 2 6 rfl rfl (by kernel_rfl) (by kernel_rfl) (by kernel_rfl) (by kernel_rfl) (fun _ _ _ h => h) rfl hS0 (by (repeat (first | (refine slot_hit (N := 150) ?_ (by rfl); (repeat (refine sz_put ?_)); assumption; done) | (apply slot_miss; focus rfl))); all_goals assumption) rfl ?_); (refine wt_move 3 10 rfl rfl (by kernel_rfl) (by kernel_rfl) (by kernel_rfl) (by kernel_rfl) (fun _ _ _ h => h) rfl hS0 (by (repeat (first | (refine slot_hit (N := 150) ?_ (by rfl); (repeat (refine sz_put ?_)); assumption; done) | (apply slot_miss; focus rfl))); all_goals assumption) rfl ?_); (refine wt_move 4 6 rfl rfl (by kernel_rfl) (by kernel_rfl) (by kernel_rfl) (by kernel_rfl) (fun _ _ _ h => h) rfl hS0 (by (repeat (first | (refine slot_hit (N := 150) ?_ (by rfl); (repeat (refine sz_put ?_)); assumption; done) | (apply slot_miss; focus rfl))); all_goals assumption) rfl ?_); (refine wt_move 5 10 rfl rfl (by kernel_rfl) (by kernel_rfl) (by kernel_rfl) (by kernel_rfl) (fun _ _ _ h => h) rfl hS0 (by (repeat (first | (refine slot_hit (N := 150) ?_ (by rfl); (repeat (refine sz_put ?_)); assumption; done) | (apply slot_miss; focus rfl))); all_goals assumption) rfl ?_); (refine wt_take2 6 104 105 (v := ?_) rfl rfl (by kernel_rfl) (by kernel_rfl) (by kernel_rfl) (by kernel_rfl) (fun _ _ _ h => h) rfl hS0 (by (repeat (first | (refine slot_hit (N := 150) ?_ (by rfl); (repeat (refine sz_put ?_)); assumption; done) | (apply slot_miss; focus rfl))); all_goals assumption) (by (repeat (first | (refine slot_hit (N := 150) ?_ (by rfl); (repeat (refine sz_put ?_)); assumption; done) | (apply slot_miss; focus rfl))); all_goals assumption) (fun ev hk hv0 hv1 w hS => ?_) ?_; rotate_left; focus (obtain _ := hS; go_simp; rfl)); (refine wt_move 8 6 rfl rfl (by kernel_rfl) (by kernel_rfl) (by kernel_rfl) (by kernel_rfl) (fun _ _ _ h => h) rfl hS0 (by (repeat (first | (refine slot_hit (N := 150) ?_ (by rfl); (repeat (refine sz_put ?_)); assumption; done) | (apply slot_miss; focus rfl))); all_goals assumption) rfl ?_); (refine wt_move 9 9 rfl rfl (by kernel_rfl) (by kernel_rfl) (by kernel_rfl) (by kernel_rfl) (fun _ _ _ h => h) rfl hS0 (by (repeat (first | (refine slot_hit (N := 150) ?_ (by rfl); (repeat (refine sz_put ?_)); assumption; done) | (apply slot_miss; focus rfl))); all_goals assumption) rfl ?_); (refine wt_take2 10 108 109 (v := ?_) rfl rfl (by kernel_rfl) (by kernel_rfl) (by kernel_rfl) (by kernel_rfl) (fun _ _ _ h => h) rfl hS0 (by (repeat (first | (refine slot_hit (N := 150) ?_ (by rfl); (repeat (refine sz_put ?_)); assumption; done) | (apply slot_miss; focus rfl))); all_goals assumption) (by (repeat (first | (refine slot_hit (N := 150) ?_ (by rfl); (repeat (refine sz_put ?_)); assumption; done) | (apply slot_miss; focus rfl))); all_goals assumption) (fun ev hk hv0 hv1 w hS => ?_) ?_; rotate_left; focus (obtain _ := hS; go_simp; rfl))
                              refine wt_weak (S' := fun W : World => W.cell? ⟨b, xn, none⟩ = some (.int .i64 (ff (xn : Int))) ∧ W.cell? ⟨b, yn, none⟩ = some (.int .i64 (ff (yn : Int)))) (n' := 13) ?_
                              clear hS0
                              have hRd : wr.drew.drew.rowIs b 3 (mn + 1) (fun v => .int .i64 (ff (v : Int))) := HB.out.2.2.2.drew.drew
                              have hS0 : (fun W : World => W.cell? ⟨b, xn, none⟩ = some (.int .i64 (ff (xn : Int))) ∧ W.cell? ⟨b, yn, none⟩ = some (.int .i64 (ff (yn : Int)))) wr.drew.drew := ⟨hRd.cell hxn, hRd.cell hyn⟩
                              (refine wt_take1 7 106 (v := ?_) rfl rfl (by kernel_rfl) (by kernel_rfl) (by kernel_rfl) (by kernel_rfl) (fun _ _ _ h => h) rfl hS0 (by (repeat (first | (refine slot_hit (N := 150) ?_ (by rfl); (repeat (refine sz_put ?_)); assumption; done) | (apply slot_miss; focus rfl))); all_goals assumption) (fun ev hk hv0 w hS => ?_) ?_; rotate_left; focus (obtain ⟨j0, j1⟩ := hS; go_simp; rfl)); (refine wt_take1 11 110 (v := ?_) rfl rfl (by kernel_rfl) (by kernel_rfl) (by kernel_rfl) (by kernel_rfl) (fun _ _ _ h => h) rfl hS0 (by (repeat (first | (refine slot_hit (N := 150) ?_ (by rfl); (repeat (refine sz_put ?_)); assumption; done) | (apply slot_miss; focus rfl))); all_goals assumption) (fun ev hk hv0 w hS => ?_) ?_; rotate_left; focus (obtain ⟨j0, j1⟩ := hS; go_simp; rfl))
                              refine wt_val2 12 100 101 (by kernel_rfl) rfl rfl rfl (by (repeat (first | (refine slot_hit (N := 150) ?_ (by rfl); (repeat (refine sz_put ?_)); assumption; done) | (apply slot_miss; focus rfl))); all_goals assumption) (by (repeat (first | (refine slot_hit (N := 150) ?_ (by rfl); (repeat (refine sz_put ?_)); assumption; done) | (apply slot_miss; focus rfl))); all_goals assumption) (v := ?_) (w' := ?_) (fun ev hk hv0 hv1 => ?_) ?_; rotate_left 2; focus (go_simp; first | rfl | (constructor <;> rfl))
                              refine ⟨fun _ => hS0, ?_⟩
                              have s1 := hRd.cell hxn
                              have s2 := hRd.frozen xn
                              refine wt_act2 13 112 107 (by kernel_rfl) rfl rfl rfl (by (repeat (first | (refine slot_hit (N := 150) ?_ (by rfl); (repeat (refine sz_put ?_)); assumption; done) | (apply slot_miss; focus rfl))); all_goals assumption) (by (repeat (first | (refine slot_hit (N := 150) ?_ (by rfl); (repeat (refine sz_put ?_)); assumption; done) | (apply slot_miss; focus rfl))); all_goals assumption) (w' := ?_) (fun ev hk hv0 hv1 => ?_) ?_; rotate_left; focus (go_simp; rfl)
                              refine ⟨fun h => absurd h (by decide), ?_⟩
                              refine wt_val2 14 102 103 (by kernel_rfl) rfl rfl rfl (by (repeat (first | (refine slot_hit (N := 150) ?_ (by rfl); (repeat (refine sz_put ?_)); assumption; done) | (apply slot_miss; focus rfl))); all_goals assumption) (by (repeat (first | (refine slot_hit (N := 150) ?_ (by rfl); (repeat (refine sz_put ?_)); assumption; done) | (apply slot_miss; focus rfl))); all_goals assumption) (v := ?_) (w' := ?_) (fun ev hk hv0 hv1 => ?_) ?_; rotate_left 2; focus (go_simp; first | rfl | (constructor <;> rfl))
                              refine ⟨fun h => absurd h (by decide), ?_⟩
                              have hRe := hRd.set xn (.int .i64 (ff (yn : Int)))
                              have s3 := (World.rowIs.set HB.out.2.2.2 xn (.int .i64 (ff (yn : Int)))).cell hyn
                              have s4 := HB.out.2.2.2.frozen yn
                              clear s1 s2
                              refine wt_act2 15 113 111 (by kernel_rfl) rfl rfl rfl (by (repeat (first | (refine slot_hit (N := 150) ?_ (by rfl); (repeat (refine sz_put ?_)); assumption; done) | (apply slot_miss; focus rfl))); all_goals assumption) (by (repeat (first | (refine slot_hit (N := 150) ?_ (by rfl); (repeat (refine sz_put ?_)); assumption; done) | (apply slot_miss; focus rfl))); all_goals assumption) (w' := ?_) (fun ev hk hv0 hv1 => ?_) ?_; rotate_left; focus (go_simp; rfl)
                              refine ⟨fun h => absurd h (by decide), ?_⟩
                              refine wt_done (by kernel_rfl) (NoPanic.normal ?_) _
                              have ha := HA.out
                              subst ha
                              have hne : w.heap.size ≠ b := by have := hlt2.out; omega
                              have hBd : Below w.heap.size w wr.drew.drew := below_dn (below_dn HB.out.1 1) 1
                              have hAd : Has wr.drew.drew w.heap.size 32 (rc c0 p0) := HB.out.2.1
                              have HN2 := Lib.hid (And.intro ((hBd.setCell (show w.heap.size ≤ (⟨b, xn, none⟩ : Addr).block from hle2.out) (.int .i64 (ff (yn : Int)))).setCell (show w.heap.size ≤ (⟨b, yn, none⟩ : Addr).block from hle2.out) (.int .i64 (ff (xn : Int)))) (And.intro ((hAd.far (q := ⟨b, xn, none⟩) hne (.int .i64 (ff (yn : Int)))).far (q := ⟨b, yn, none⟩) hne (.int .i64 (ff (xn : Int)))) (And.intro hPn.out ((hRe.set yn (.int .i64 (ff (xn : Int)))).congr (fun j hj => show (if j = yn then Value.int .i64 (ff (xn : Int)) else if j = xn then .int .i64 (ff (yn : Int)) else .int .i64 (ff (j : Int))) = .int .i64 (if (j : Int) = (yn : Int) then ff (xn : Int) else if (j : Int) = (xn : Int) then ff (yn : Int) else ff (j : Int)) from swap_val j yn xn _ _ _)))))
                              clear hS0 hs6 hs9 hs10 hZ hRd hRe s3 s4 hBd hAd hne
                              go_wp2
                              go_roundw
                              case rel => exact ⟨q + 1, by omega, by go_num, HN2.out.1, HN2.out.2.1, _, HN2.out.2.2.1, HN2.out.2.2.2⟩
                              case measure => simp [intOf]; omega
                            · go_wp2
                              go_roundw
                              case rel => exact ⟨q + 1, by omega, by go_num, below_dn HB.out.1 1, HB.out.2.1, ff, HB.out.2.2.1, HB.out.2.2.2.drew⟩
                              case measure => simp [intOf]; omega
                          · go_wp2
                            go_roundw
                            case rel => exact ⟨q + 1, by omega, by go_num, below_dn HB.out.1 1, HB.out.2.1, ff, HB.out.2.2.1, HB.out.2.2.2.drew⟩
                            case measure => simp [intOf]; omega
                        · go_wp2
                          go_roundw
                          case rel => exact ⟨q + 1, by omega, by go_num, below_dn HB.out.1 1, HB.out.2.1, ff, HB.out.2.2.1, HB.out.2.2.2.drew⟩
                          case measure => simp [intOf]; omega
                      · go_wp2
                        go_roundw
                        case rel => exact ⟨q + 1, by omega, by go_num, below_dn HB.out.1 1, HB.out.2.1, ff, HB.out.2.2.1, HB.out.2.2.2.drew⟩
                        case measure => simp [intOf]; omega
                    · have hq1 : ¬ (q : Int) < (n1 : Int) := by omega
                      obtain ⟨hBr, hAr, hPf, hRr⟩ := HB.out
                      clear hlt hq
                      go_wp2_with (go_at_call 9; (with_reducible refine (C1.out _ hBr).mono ?_); rintro e w3 ⟨⟨Q1, Q2, Q3, Q4, l1, l2, l3, l4⟩, A5, k5', rfl, hm3, hb3⟩; have hB3 := Below.step hBr hBr.size hb3; have hA3 := hAr.keep hb3 hAr.lt; have hR3 := hRr.of_block (hb3.block b hRr.lt); have hz3 := hA3.lt; clear x0 x1 x2 x3 x4 x5; obtain ⟨x0, x1, x2, x3, x4, x5⟩ := hA3.rbox)
                      have hb3x : Below w3.heap.size w3 (w3.alloc (.cells #[.int .i64 C.i, .slice Q1 C.nl l1, .slice Q2 C.na l2, .slice Q3 C.nb l3, .slice Q4 C.nc l4] 26)) := (Below.refl _ _).alloc (Nat.le_refl _) _
                      have hB3x := Below.step hB3 hB3.size hb3x
                      have hA3x := hA3.keep hb3x hA3.lt
                      have hR3x := hR3.of_block (hb3x.block b hR3.lt)
                      have hm3x := hm3.to hb3x hb3x.size
                      have hU3x : Has (w3.alloc (.cells #[.int .i64 C.i, .slice Q1 C.nl l1, .slice Q2 C.na l2, .slice Q3 C.nb l3, .slice Q4 C.nc l4] 26)) w3.heap.size 26 (cc C ⟨Q1, Q2, Q3, Q4, l1, l2, l3, l4⟩) := Has.new w3 26 (cc C ⟨Q1, Q2, Q3, Q4, l1, l2, l3, l4⟩)
                      clear hBr hAr hRr HB hb3 hB3 hA3 hR3 hm3
                      go_wp2_with (go_at_call 24; (with_reducible refine (MV.out _ ff b hB3x hPf hR3x).mono ?_); rintro e w4 ⟨⟨R1, R2, R3, R4, R5, r1, r2, r3, r4, r5⟩, rfl, hmm4, hnn4, hb4⟩; have hB4 := Below.step hB3x hB3x.size hb4; have hA4 := hA3x.keep hb4 hA3x.lt; have hm4 := hm3x.to hb4 hb4.size; have hU4 := hU3x.keep hb4 hU3x.lt; have hz4 := hA4.lt; have hz4' := hU4.lt; clear x0 x1 x2 x3 x4 x5; obtain ⟨x0, x1, x2, x3, x4, x5⟩ := hA4.rbox)
                      go_wp2_with (go_at_call 9; (with_reducible refine (C2.out _ ff ⟨R1, R2, R3, R4, R5, r1, r2, r3, r4, r5⟩ hPf hmm4 hnn4).mono ?_); rintro e w5 ⟨⟨S1, S2, S3, S4, s1, s2, s3, s4⟩, A8, k8, rfl, hm5, hb5⟩; have hB5 := Below.step hB4 hB4.size hb5; have hA5 := hA4.keep hb5 hA4.lt; have hU5 := hU4.keep hb5 hU4.lt; have hmu5 := hm4.to hb5 hb5.size; have hz5 := hA5.lt; have hz5' := hU5.lt; clear x0 x1 x2 x3 x4 x5; obtain ⟨x0, x1, x2, x3, x4, x5⟩ := hA5.rbox; obtain ⟨u0, u1, u2, u3, u4⟩ := hU5.box)
                      have hb5x : Below w5.heap.size w5 (w5.alloc (.cells #[.int .i64 C.i, .slice S1 C.nl s1, .slice S2 C.na s2, .slice S3 C.nb s3, .slice S4 C.nc s4] 26)) := (Below.refl _ _).alloc (Nat.le_refl _) _
                      have hB5x := Below.step hB5 hB5.size hb5x
                      have HMM := Lib.hid (And.intro (hmu5.to hb5x hb5x.size) (hm5.to hb5x hb5x.size))
                      have hA5x := hA5.keep hb5x hA5.lt
                      clear hb4 hb5 hB4 hB3x hA4 hA3x hm4 hm3x hU4 hU3x hR3x hb3x hmm4 hnn4 hB5 hA5 hmu5 hm5 hU5 hb5x
                      go_wp2_with (go_at_call 11; (with_reducible refine (same_self C ⟨Q1, Q2, Q3, Q4, l1, l2, l3, l4⟩ ⟨S1, S2, S3, S4, s1, s2, s3, s4⟩ _ SC.out HMM.out.1 HMM.out.2).mono ?_); rintro e w6 ⟨rfl, hb6⟩; have hB6 := Below.step hB5x hB5x.size hb6; have hA6 := hA5x.keep hb6 hA5x.lt; clear x0 x1 x2 x3 x4 x5; obtain ⟨x0, x1, x2, x3, x4, x5⟩ := hA6.rbox)
                      go_wp2_with (go_at_call 15; (with_reducible refine (AL.out _).mono ?_); rintro e w7 ⟨rfl, hb7⟩; have hB7 := Below.step hB6 hB6.size hb7)
                      go_ret
                      exact ⟨rfl, hB7⟩
            · go_enter Try.func6, Try.ntmps6
              go_wp2_with (go_at_call 16; (with_reducible refine (G0.out _).mono ?_); rintro e w1 ⟨rfl, hb1⟩; have hB1 : Below w.heap.size w w1 := Below.step (by go_grown) (by go_size) hb1; have hA1 : Has w1 w.heap.size 32 (rc c0 p0) := (Has.new w 32 (rc c0 p0)).keep hb1 (by simp); obtain ⟨x0, x1, x2, x3, x4, x5⟩ := hA1.rbox)
              go_wp2_with (go_at_call 19; (with_reducible refine (K0.out _ hB1).mono ?_); rintro e w2 ⟨rfl, hb2⟩; have hB2 := Below.step hB1 hB1.size hb2; have hA2 := hA1.keep hb2 hA1.lt; clear x0 x1 x2 x3 x4 x5; obtain ⟨x0, x1, x2, x3, x4, x5⟩ := hA2.rbox)
              have hbx : Below w2.heap.size w2 (w2.alloc (.cells (madeCells #[.int .i64 0] (mn + 1)) 3)) := (Below.refl _ _).alloc (Nat.le_refl _) _
              have hBx := Below.step hB2 hB2.size hbx
              have hAx := hA2.keep hbx hA2.lt
              have hRx : (w2.alloc (.cells (madeCells #[.int .i64 0] (mn + 1)) 3)).rowIs w2.heap.size 3 (mn + 1) (fun v => .int .i64 (if v < 0 then (v : Int) else 0)) := (World.rowIs_made w2 (.int .i64 0) (mn + 1) 3).congr fun v _ => by rw [if_neg (Nat.not_lt_zero _)]
              have HX := Lib.hid (And.intro hBx (And.intro hAx hRx))
              have hlt2 := Lib.hid hA2.lt
              have hle2 := Lib.hid hB2.size
              obtain ⟨b, hb⟩ : ∃ b, w2.heap.size = b := ⟨_, rfl⟩
              rw [hb] at hlt2 hle2
              clear hb1 hb2 hB1 hB2 hA1 hA2 hbx hBx hAx hRx
              go_wp2
              go_loopw [7] (fun i wr => ∃ q : Nat, q ≤ mn + 1 ∧ i = .int .i64 (q : Int) ∧ Below w.heap.size w wr ∧ Has wr w.heap.size 32 (rc c0 p0) ∧ wr.rowIs b 3 (mn + 1) (fun v => .int .i64 (if v < q then (v : Int) else 0))) (fun i _ => mn + 1 - (intOf i).toNat)
              case atStart => exact ⟨0, Nat.zero_le _, rfl, HX.out.1, HX.out.2.1, hb ▸ HX.out.2.2⟩
              case round =>
                clear HX
                obtain ⟨q, hq, rfl, hBr, hAr, hRr⟩ := hrel
                by_cases hlt : q < mn + 1
                · have hqb : (q : Int) < 1001 := by have := HM1.out; omega
                  have hq1 : (q : Int) < (mn : Int) + 1 := by omega
                  have z1 := hRr.cell hlt
                  have z2 := hRr.frozen q
                  have hne : w.heap.size ≠ b := by have := hlt2.out; omega
                  have HR := Lib.hid (And.intro (hBr.setCell (show w.heap.size ≤ (⟨b, q, none⟩ : Addr).block from hle2.out) (.int .i64 (q : Int))) (And.intro (hAr.far (q := ⟨b, q, none⟩) hne (.int .i64 (q : Int))) ((hRr.set q (.int .i64 (q : Int))).congr (fun j hj => show (if j = q then Value.int .i64 (q : Int) else .int .i64 (if j < q then (j : Int) else 0)) = .int .i64 (if j < q + 1 then (j : Int) else 0) from by
                    by_cases ej : j = q
                    · subst ej; rw [if_pos rfl, if_pos (by omega)]
                    · rw [if_neg ej]
                      by_cases el : j < q
                      · rw [if_pos el, if_pos (by omega)]
                      · rw [if_neg el, if_neg (by omega)]))))
                  clear hBr hAr hRr hne
                  go_wp2
                  go_roundw
                  case rel => exact ⟨q + 1, by omega, by go_num, HR.out.1, HR.out.2.1, HR.out.2.2⟩
                  case measure => simp [intOf]; omega
                · obtain rfl : q = mn + 1 := by omega
                  have HX := Lib.hid (And.intro hBr (And.intro hAr (hRr.congr (fun j hj => show Value.int .i64 (if j < mn + 1 then (j : Int) else 0) = .int .i64 ((fun v : Int => v) (j : Int)) from by rw [if_pos hj]))))
                  have hq1 : ¬ (((mn + 1 : Nat) : Int)) < (mn : Int) + 1 := by omega
                  clear hBr hAr hRr hlt hq
                  go_wp2
                  go_loopw [8] (fun i wr => ∃ q : Nat, q ≤ n1 ∧ i = .int .i64 (q : Int) ∧ Below w.heap.size w wr ∧ Has wr w.heap.size 32 (rc c0 p0) ∧ ∃ ff : Int → Int, Prm c0.m ff ∧ wr.rowIs b 3 (mn + 1) (fun v => .int .i64 (ff (v : Int)))) (fun i _ => n1 - (intOf i).toNat)
                  case atStart => exact ⟨0, Nat.zero_le _, rfl, HX.out.1, HX.out.2.1, _, Prm.id _, HX.out.2.2⟩
                  case round =>
                    clear HX
                    obtain ⟨q, hq, rfl, hBr, hAr, ff, hPf, hRr⟩ := hrel
                    obtain ⟨x0, x1, x2, x3, x4, x5⟩ := hAr.rbox
                    have HB := Lib.hid (And.intro hBr (And.intro hAr (And.intro hPf hRr)))
                    clear hBr hAr hPf hRr
                    by_cases hlt : q < n1
                    · have hq0 : (0 : Int) ≤ (q : Int) := by omega
                      have hq1 : (q : Int) < (n1 : Int) := by omega
                      have hqb : (q : Int) < 21 := by omega
                      obtain ⟨ad, hA, had, hcs⟩ := (HP.out.1.keep HB.out.1) (by omega)
                      obtain ⟨y0, y1⟩ := hcs q hlt
                      subst hA
                      obtain ⟨x, hx⟩ : ∃ x, f1 q = x := ⟨_, rfl⟩
                      obtain ⟨y, hy⟩ : ∃ y, g1 q = y := ⟨_, rfl⟩
                      rw [hx] at y0
                      rw [hy] at y1
                      clear hcs hx hy
                      go_wp2
                      refine wp_slots (fun f => Sz f 150 ∧ Slot f 1 (.slice (some ad) n1 k1) ∧ Slot f 8 (.int .i64 (q : Int))) ⟨⟨rfl, rfl⟩, ⟨rfl⟩, ⟨rfl⟩⟩ fun a0' hA0 hR => ?_
                      obtain ⟨hZ, hs1, hs8⟩ := hR
                      have HA := Lib.hid hA0
                      clear hA0
                      have hbd := Below.drew (Below.refl wr.heap.size wr)
                      have hS0 : (fun W : World => W.cell? (ad.add (q * 2)) = some (.int .i64 x) ∧ W.cell? ⟨(ad.add (q * 2)).block, (ad.add (q * 2)).off + 1, none⟩ = some (.int .i64 y)) wr.drew := ⟨y0, y1⟩
                      refine wp_region_T (fun W : World => W.cell? (ad.add (q * 2)) = some (.int .i64 x) ∧ W.cell? ⟨(ad.add (q * 2)).block, (ad.add (q * 2)).off + 1, none⟩ = some (.int .i64 y)) 12 (by kernel_rfl) ?_
                      refine WT.h ?_
                      (refine wt_move 0 1 rfl rfl (by kernel_rfl) (by kernel_rfl) (by kernel_rfl) (by kernel_rfl) (fun _ _ _ h => h) rfl hS0 (by (repeat (first | (refine slot_hit (N := 150) ?_ (by rfl); (repeat (refine sz_put ?_)); assumption; done) | (apply slot_miss; focus rfl))); all_goals assumption) rfl ?_); (refine wt_move 1 8 rfl rfl (by kernel_rfl) (by kernel_rfl) (by kernel_rfl) (by kernel_rfl) (fun _ _ _ h => h) rfl hS0 (by (repeat (first | (refine slot_hit (N := 150) ?_ (by rfl); (repeat (refine sz_put ?_)); assumption; done) | (apply slot_miss; focus rfl))); all_goals assumption) rfl ?_); (refine wt_take2 2 72 73 (v := ?_) rfl rfl (by kernel_rfl) (by kernel_rfl) (by kernel_rfl) (by kernel_rfl) (fun _ _ _ h => h) rfl hS0 (by (repeat (first | (refine slot_hit (N := 150) ?_ (by rfl); (repeat (refine sz_put ?_)); assumption; done) | (apply slot_miss; focus rfl))); all_goals assumption) (by (repeat (first | (refine slot_hit (N := 150) ?_ (by rfl); (repeat (refine sz_put ?_)); assumption; done) | (apply slot_miss; focus rfl))); all_goals assumption) (fun ev hk hv0 hv1 w hS => ?_) ?_; rotate_left; focus (obtain ⟨j0, j1⟩ := hS; go_simp; rfl)); (refine wt_take1 3 74 (v := ?_) rfl rfl (by kernel_rfl) (by kernel_rfl) (by kernel_rfl) (by kernel_rfl) (fun _ _ _ h => h) rfl hS0 (by (repeat (first | (refine slot_hit (N := 150) ?_ (by rfl); (repeat (refine sz_put ?_)); assumption; done) | (apply slot_miss; focus rfl))); all_goals assumption) (fun ev hk hv0 w hS => ?_) ?_; rotate_left; focus (obtain ⟨j0, j1⟩ := hS; go_simp; rfl)); (refine wt_take1 4 75 (v := ?_) rfl rfl (by kernel_rfl) (by kernel_rfl) (by kernel_rfl) (by kernel_rfl) (fun _ _ _ h => h) rfl hS0 (by (repeat (first | (refine slot_hit (N := 150) ?_ (by rfl); (repeat (refine sz_put ?_)); assumption; done) | (apply slot_miss; focus rfl))); all_goals assumption) (fun ev hk hv0 w hS => ?_) ?_; rotate_left; focus (obtain ⟨j0, j1⟩ := hS; go_simp; rfl)); (refine wt_move 5 1 rfl rfl (by kernel_rfl) (by kernel_rfl) (by kernel_rfl) (by kernel_rfl) (fun _ _ _ h => h) rfl hS0 (by (repeat (first | (refine slot_hit (N := 150) ?_ (by rfl); (repeat (refine sz_put ?_)); assumption; done) | (apply slot_miss; focus rfl))); all_goals assumption) rfl ?_); (refine wt_move 6 8 rfl rfl (by kernel_rfl) (by kernel_rfl) (by kernel_rfl) (by kernel_rfl) (fun _ _ _ h => h) rfl hS0 (by (repeat (first | (refine slot_hit (N := 150) ?_ (by rfl); (repeat (refine sz_put ?_)); assumption; done) | (apply slot_miss; focus rfl))); all_goals assumption) rfl ?_); (refine wt_take2 7 77 78 (v := ?_) rfl rfl (by kernel_rfl) (by kernel_rfl) (by kernel_rfl) (by kernel_rfl) (fun _ _ _ h => h) rfl hS0 (by (repeat (first | (refine slot_hit (N := 150) ?_ (by rfl); (repeat (refine sz_put ?_)); assumption; done) | (apply slot_miss; focus rfl))); all_goals assumption) (by (repeat (first | (refine slot_hit (N := 150) ?_ (by rfl); (repeat (refine sz_put ?_)); assumption; done) | (apply slot_miss; focus rfl))); all_goals assumption) (fun ev hk hv0 hv1 w hS => ?_) ?_; rotate_left; focus (obtain ⟨j0, j1⟩ := hS; go_simp; rfl)); (refine wt_take1 8 79 (v := ?_) rfl rfl (by kernel_rfl) (by kernel_rfl) (by kernel_rfl) (by kernel_rfl) (fun _ _ _ h => h) rfl hS0 (by (repeat (first | (refine slot_hit (N := 150) ?_ (by rfl); (repeat (refine sz_put ?_)); assumption; done) | (apply slot_miss; focus rfl))); all_goals assumption) (fun ev hk hv0 w hS => ?_) ?_; rotate_left; focus (obtain ⟨j0, j1⟩ := hS; go_simp; rfl)); (refine wt_take1 9 80 (v := ?_) rfl rfl (by kernel_rfl) (by kernel_rfl) (by kernel_rfl) (by kernel_rfl) (fun _ _ _ h => h) rfl hS0 (by (repeat (first | (refine slot_hit (N := 150) ?_ (by rfl); (repeat (refine sz_put ?_)); assumption; done) | (apply slot_miss; focus rfl))); all_goals assumption) (fun ev hk hv0 w hS => ?_) ?_; rotate_left; focus (obtain ⟨j0, j1⟩ := hS; go_simp; rfl)); (refine wt_assign 10 76 rfl rfl (by kernel_rfl) (by kernel_rfl) (by kernel_rfl) (by kernel_rfl) (fun _ _ _ h => h) rfl hS0 (by (repeat (first | (refine slot_hit (N := 150) ?_ (by rfl); (repeat (refine sz_put ?_)); assumption; done) | (apply slot_miss; focus rfl))); all_goals assumption) rfl ?_); (refine wt_assign 11 81 rfl rfl (by kernel_rfl) (by kernel_rfl) (by kernel_rfl) (by kernel_rfl) (fun _ _ _ h => h) rfl hS0 (by (repeat (first | (refine slot_hit (N := 150) ?_ (by rfl); (repeat (refine sz_put ?_)); assumption; done) | (apply slot_miss; focus rfl))); all_goals assumption) rfl ?_)
                      refine wt_done (by kernel_rfl) (NoPanic.normal ?_) _
                      have ha := HA.out
                      subst ha
                      clear hS0 hs1 hs8 hZ y0 y1
                      have x0 : wr.drew.cell? ⟨w.heap.size, 0, none⟩ = some (.int .i64 c0.m) := x0
                      by_cases c1 : 1 ≤ x
                      · by_cases c2 : 1 ≤ y
                        · by_cases c3 : x ≤ c0.m
                          · by_cases c4 : y ≤ c0.m
                            · obtain ⟨xn, rfl⟩ : ∃ n : Nat, x = (n : Int) := ⟨x.toNat, by omega⟩
                              obtain ⟨yn, rfl⟩ : ∃ n : Nat, y = (n : Int) := ⟨y.toNat, by omega⟩
                              have hxn : xn < mn + 1 := by have := HMN.out; omega
                              have hyn : yn < mn + 1 := by have := HMN.out; omega
                              have hx0 : (0 : Int) ≤ (xn : Int) := by omega
                              have hy0 : (0 : Int) ≤ (yn : Int) := by omega
                              have hx1 : (xn : Int) < (mn : Int) + 1 := by omega
                              have hy1 : (yn : Int) < (mn : Int) + 1 := by omega
                              have hPn := Lib.hid (HB.out.2.2.1.swap c1 c3 c2 c4)
                              go_wp2
                              refine wp_slots (fun f => Sz f 150 ∧ Slot f 6 (.slice (some ⟨b, 0, none⟩) (mn + 1) (mn + 1)) ∧ Slot f 9 (.int .i64 (xn : Int)) ∧ Slot f 10 (.int .i64 (yn : Int))) ⟨⟨rfl, rfl⟩, ⟨rfl⟩, ⟨rfl⟩, ⟨rfl⟩⟩ fun a0' hA0 hR => ?_
                              obtain ⟨hZ, hs6, hs9, hs10⟩ := hR
                              have HA := Lib.hid hA0
                              clear hA0 x0 x1 x2 x3 x4 x5
                              refine wp_region_T (fun _ : World => True) 16 (by kernel_rfl) ?_
                              refine WT.h ?_
                              have hS0 : (fun _ : World => True) wr.drew.drew := trivial
                              (refine wt_move 0 6 rfl rfl (by kernel_rfl) (by kernel_rfl) (by kernel_rfl) (by kernel_rfl) (fun _ _ _ h => h) rfl hS0 (by (repeat (first | (refine slot_hit (N := 150) ?_ (by rfl); (repeat (refine sz_put ?_)); assumption; done) | (apply slot_miss; focus rfl))); all_goals assumption) rfl ?_); (refine wt_move 1 9 rfl rfl (by kernel_rfl) (by kernel_rfl) (by kernel_rfl) (by kernel_rfl) (fun _ _ _ h => h) rfl hS0 (by (repeat (first | (refine slot_hit (N := 150) ?_ (by rfl); (repeat (refine sz_put ?_)); assumption; done) | (apply slot_miss; focus rfl))); all_goals assumption) rfl ?_); (refine wt_move 2 6 rfl rfl (by kernel_rfl) (by kernel_rfl) (by kernel_rfl) (by kernel_rfl) (fun _ _ _ h => h) rfl hS0 (by (repeat (first | (refine slot_hit (N := 150) ?_ (by rfl); (repeat (refine sz_put ?_)); assumption; done) | (apply slot_miss; focus rfl))); all_goals assumption) rfl ?_); (refine wt_move 3 10 rfl rfl (by kernel_rfl) (by kernel_rfl) (by kernel_rfl) (by kernel_rfl) (fun _ _ _ h => h) rfl hS0 (by (repeat (first | (refine slot_hit (N := 150) ?_ (by rfl); (repeat (refine sz_put ?_)); assumption; done) | (apply slot_miss; focus rfl))); all_goals assumption) rfl ?_); (refine wt_move 4 6 rfl rfl (by kernel_rfl) (by kernel_rfl) (by kernel_rfl) (by kernel_rfl) (fun _ _ _ h => h) rfl hS0 (by (repeat (first | (refine slot_hit (N := 150) ?_ (by rfl); (repeat (refine sz_put ?_)); assumption; done) | (apply slot_miss; focus rfl))); all_goals assumption) rfl ?_); (refine wt_move 5 10 rfl rfl (by kernel_rfl) (by kernel_rfl) (by kernel_rfl) (by kernel_rfl) (fun _ _ _ h => h) rfl hS0 (by (repeat (first | (refine slot_hit (N := 150) ?_ (by rfl); (repeat (refine sz_put ?_)); assumption; done) | (apply slot_miss; focus rfl))); all_goals assumption) rfl ?_); (refine wt_take2 6 104 105 (v := ?_) rfl rfl (by kernel_rfl) (by kernel_rfl) (by kernel_rfl) (by kernel_rfl) (fun _ _ _ h => h) rfl hS0 (by (repeat (first | (refine slot_hit (N := 150) ?_ (by rfl); (repeat (refine sz_put ?_)); assumption; done) | (apply slot_miss; focus rfl))); all_goals assumption) (by (repeat (first | (refine slot_hit (N := 150) ?_ (by rfl); (repeat (refine sz_put ?_)); assumption; done) | (apply slot_miss; focus rfl))); all_goals assumption) (fun ev hk hv0 hv1 w hS => ?_) ?_; rotate_left; focus (obtain _ := hS; go_simp; rfl)); (refine wt_move 8 6 rfl rfl (by kernel_rfl) (by kernel_rfl) (by kernel_rfl) (by kernel_rfl) (fun _ _ _ h => h) rfl hS0 (by (repeat (first | (refine slot_hit (N := 150) ?_ (by rfl); (repeat (refine sz_put ?_)); assumption; done) | (apply slot_miss; focus rfl))); all_goals assumption) rfl ?_); (refine wt_move 9 9 rfl rfl (by kernel_rfl) (by kernel_rfl) (by kernel_rfl) (by kernel_rfl) (fun _ _ _ h => h) rfl hS0 (by (repeat (first | (refine slot_hit (N := 150) ?_ (by rfl); (repeat (refine sz_put ?_)); assumption; done) | (apply slot_miss; focus rfl))); all_goals assumption) rfl ?_); (refine wt_take2 10 108 109 (v := ?_) rfl rfl (by kernel_rfl) (by kernel_rfl) (by kernel_rfl) (by kernel_rfl) (fun _ _ _ h => h) rfl hS0 (by (repeat (first | (refine slot_hit (N := 150) ?_ (by rfl); (repeat (refine sz_put ?_)); assumption; done) | (apply slot_miss; focus rfl))); all_goals assumption) (by (repeat (first | (refine slot_hit (N := 150) ?_ (by rfl); (repeat (refine sz_put ?_)); assumption; done) | (apply slot_miss; focus rfl))); all_goals assumption) (fun ev hk hv0 hv1 w hS => ?_) ?_; rotate_left; focus (obtain _ := hS; go_simp; rfl))
                              refine wt_weak (S' := fun W : World => W.cell? ⟨b, xn, none⟩ = some (.int .i64 (ff (xn : Int))) ∧ W.cell? ⟨b, yn, none⟩ = some (.int .i64 (ff (yn : Int)))) (n' := 13) ?_
                              clear hS0
                              have hRd : wr.drew.drew.rowIs b 3 (mn + 1) (fun v => .int .i64 (ff (v : Int))) := HB.out.2.2.2.drew.drew
                              have hS0 : (fun W : World => W.cell? ⟨b, xn, none⟩ = some (.int .i64 (ff (xn : Int))) ∧ W.cell? ⟨b, yn, none⟩ = some (.int .i64 (ff (yn : Int)))) wr.drew.drew := ⟨hRd.cell hxn, hRd.cell hyn⟩
                              (refine wt_take1 7 106 (v := ?_) rfl rfl (by kernel_rfl) (by kernel_rfl) (by kernel_rfl) (by kernel_rfl) (fun _ _ _ h => h) rfl hS0 (by (repeat (first | (refine slot_hit (N := 150) ?_ (by rfl); (repeat (refine sz_put ?_)); assumption; done) | (apply slot_miss; focus rfl))); all_goals assumption) (fun ev hk hv0 w hS => ?_) ?_; rotate_left; focus (obtain ⟨j0, j1⟩ := hS; go_simp; rfl)); (refine wt_take1 11 110 (v := ?_) rfl rfl (by kernel_rfl) (by kernel_rfl) (by kernel_rfl) (by kernel_rfl) (fun _ _ _ h => h) rfl hS0 (by (repeat (first | (refine slot_hit (N := 150) ?_ (by rfl); (repeat (refine sz_put ?_)); assumption; done) | (apply slot_miss; focus rfl))); all_goals assumption) (fun ev hk hv0 w hS => ?_) ?_; rotate_left; focus (obtain ⟨j0, j1⟩ := hS; go_simp; rfl))
                              refine wt_val2 12 100 101 (by kernel_rfl) rfl rfl rfl (by (repeat (first | (refine slot_hit (N := 150) ?_ (by rfl); (repeat (refine sz_put ?_)); assumption; done) | (apply slot_miss; focus rfl))); all_goals assumption) (by (repeat (first | (refine slot_hit (N := 150) ?_ (by rfl); (repeat (refine sz_put ?_)); assumption; done) | (apply slot_miss; focus rfl))); all_goals assumption) (v := ?_) (w' := ?_) (fun ev hk hv0 hv1 => ?_) ?_; rotate_left 2; focus (go_simp; first | rfl | (constructor <;> rfl))
                              refine ⟨fun _ => hS0, ?_⟩
                              have s1 := hRd.cell hxn
                              have s2 := hRd.frozen xn
                              refine wt_act2 13 112 107 (by kernel_rfl) rfl rfl rfl (by (repeat (first | (refine slot_hit (N := 150) ?_ (by rfl); (repeat (refine sz_put ?_)); assumption; done) | (apply slot_miss; focus rfl))); all_goals assumption) (by (repeat (first | (refine slot_hit (N := 150) ?_ (by rfl); (repeat (refine sz_put ?_)); assumption; done) | (apply slot_miss; focus rfl))); all_goals assumption) (w' := ?_) (fun ev hk hv0 hv1 => ?_) ?_; rotate_left; focus (go_simp; rfl)
                              refine ⟨fun h => absurd h (by decide), ?_⟩
                              refine wt_val2 14 102 103 (by kernel_rfl) rfl rfl rfl (by (repeat (first | (refine slot_hit (N := 150) ?_ (by rfl); (repeat (refine sz_put ?_)); assumption; done) | (apply slot_miss; focus rfl))); all_goals assumption) (by (repeat (first | (refine slot_hit (N := 150) ?_ (by rfl); (repeat (refine sz_put ?_)); assumption; done) | (apply slot_miss; focus rfl))); all_goals assumption) (v := ?_) (w' := ?_) (fun ev hk hv0 hv1 => ?_) ?_; rotate_left 2; focus (go_simp; first | rfl | (constructor <;> rfl))
                              refine ⟨fun h => absurd h (by decide), ?_⟩
                              have hRe := hRd.set xn (.int .i64 (ff (yn : Int)))
                              have s3 := (World.rowIs.set HB.out.2.2.2 xn (.int .i64 (ff (yn : Int)))).cell hyn
                              have s4 := HB.out.2.2.2.frozen yn
                              clear s1 s2
                              refine wt_act2 15 113 111 (by kernel_rfl) rfl rfl rfl (by (repeat (first | (refine slot_hit (N := 150) ?_ (by rfl); (repeat (refine sz_put ?_)); assumption; done) | (apply slot_miss; focus rfl))); all_goals assumption) (by (repeat (first | (refine slot_hit (N := 150) ?_ (by rfl); (repeat (refine sz_put ?_)); assumption; done) | (apply slot_miss; focus rfl))); all_goals assumption) (w' := ?_) (fun ev hk hv0 hv1 => ?_) ?_; rotate_left; focus (go_simp; rfl)
                              refine ⟨fun h => absurd h (by decide), ?_⟩
                              refine wt_done (by kernel_rfl) (NoPanic.normal ?_) _
                              have ha := HA.out
                              subst ha
                              have hne : w.heap.size ≠ b := by have := hlt2.out; omega
                              have hBd : Below w.heap.size w wr.drew.drew := below_dn (below_dn HB.out.1 1) 1
                              have hAd : Has wr.drew.drew w.heap.size 32 (rc c0 p0) := HB.out.2.1
                              have HN2 := Lib.hid (And.intro ((hBd.setCell (show w.heap.size ≤ (⟨b, xn, none⟩ : Addr).block from hle2.out) (.int .i64 (ff (yn : Int)))).setCell (show w.heap.size ≤ (⟨b, yn, none⟩ : Addr).block from hle2.out) (.int .i64 (ff (xn : Int)))) (And.intro ((hAd.far (q := ⟨b, xn, none⟩) hne (.int .i64 (ff (yn : Int)))).far (q := ⟨b, yn, none⟩) hne (.int .i64 (ff (xn : Int)))) (And.intro hPn.out ((hRe.set yn (.int .i64 (ff (xn : Int)))).congr (fun j hj => show (if j = yn then Value.int .i64 (ff (xn : Int)) else if j = xn then .int .i64 (ff (yn : Int)) else .int .i64 (ff (j : Int))) = .int .i64 (if (j : Int) = (yn : Int) then ff (xn : Int) else if (j : Int) = (xn : Int) then ff (yn : Int) else ff (j : Int)) from swap_val j yn xn _ _ _)))))
                              clear hS0 hs6 hs9 hs10 hZ hRd hRe s3 s4 hBd hAd hne
                              go_wp2
                              go_roundw
                              case rel => exact ⟨q + 1, by omega, by go_num, HN2.out.1, HN2.out.2.1, _, HN2.out.2.2.1, HN2.out.2.2.2⟩
                              case measure => simp [intOf]; omega
                            · go_wp2
                              go_roundw
                              case rel => exact ⟨q + 1, by omega, by go_num, below_dn HB.out.1 1, HB.out.2.1, ff, HB.out.2.2.1, HB.out.2.2.2.drew⟩
                              case measure => simp [intOf]; omega
                          · go_wp2
                            go_roundw
                            case rel => exact ⟨q + 1, by omega, by go_num, below_dn HB.out.1 1, HB.out.2.1, ff, HB.out.2.2.1, HB.out.2.2.2.drew⟩
                            case measure => simp [intOf]; omega
                        · go_wp2
                          go_roundw
                          case rel => exact ⟨q + 1, by omega, by go_num, below_dn HB.out.1 1, HB.out.2.1, ff, HB.out.2.2.1, HB.out.2.2.2.drew⟩
                          case measure => simp [intOf]; omega
                      · go_wp2
                        go_roundw
                        case rel => exact ⟨q + 1, by omega, by go_num, below_dn HB.out.1 1, HB.out.2.1, ff, HB.out.2.2.1, HB.out.2.2.2.drew⟩
                        case measure => simp [intOf]; omega
                    · have hq1 : ¬ (q : Int) < (n1 : Int) := by omega
                      obtain ⟨hBr, hAr, hPf, hRr⟩ := HB.out
                      clear hlt hq
                      go_wp2_with (go_at_call 9; (with_reducible refine (C1.out _ hBr).mono ?_); rintro e w3 ⟨⟨Q1, Q2, Q3, Q4, l1, l2, l3, l4⟩, A5, k5', rfl, hm3, hb3⟩; have hB3 := Below.step hBr hBr.size hb3; have hA3 := hAr.keep hb3 hAr.lt; have hR3 := hRr.of_block (hb3.block b hRr.lt); have hz3 := hA3.lt; clear x0 x1 x2 x3 x4 x5; obtain ⟨x0, x1, x2, x3, x4, x5⟩ := hA3.rbox)
                      have hb3x : Below w3.heap.size w3 (w3.alloc (.cells #[.int .i64 C.i, .slice Q1 C.nl l1, .slice Q2 C.na l2, .slice Q3 C.nb l3, .slice Q4 C.nc l4] 26)) := (Below.refl _ _).alloc (Nat.le_refl _) _
                      have hB3x := Below.step hB3 hB3.size hb3x
                      have hA3x := hA3.keep hb3x hA3.lt
                      have hR3x := hR3.of_block (hb3x.block b hR3.lt)
                      have hm3x := hm3.to hb3x hb3x.size
                      have hU3x : Has (w3.alloc (.cells #[.int .i64 C.i, .slice Q1 C.nl l1, .slice Q2 C.na l2, .slice Q3 C.nb l3, .slice Q4 C.nc l4] 26)) w3.heap.size 26 (cc C ⟨Q1, Q2, Q3, Q4, l1, l2, l3, l4⟩) := Has.new w3 26 (cc C ⟨Q1, Q2, Q3, Q4, l1, l2, l3, l4⟩)
                      clear hBr hAr hRr HB hb3 hB3 hA3 hR3 hm3
                      go_wp2_with (go_at_call 24; (with_reducible refine (MV.out _ ff b hB3x hPf hR3x).mono ?_); rintro e w4 ⟨⟨R1, R2, R3, R4, R5, r1, r2, r3, r4, r5⟩, rfl, hmm4, hnn4, hb4⟩; have hB4 := Below.step hB3x hB3x.size hb4; have hA4 := hA3x.keep hb4 hA3x.lt; have hm4 := hm3x.to hb4 hb4.size; have hU4 := hU3x.keep hb4 hU3x.lt; have hz4 := hA4.lt; have hz4' := hU4.lt; clear x0 x1 x2 x3 x4 x5; obtain ⟨x0, x1, x2, x3, x4, x5⟩ := hA4.rbox)
                      go_wp2_with (go_at_call 9; (with_reducible refine (C2.out _ ff ⟨R1, R2, R3, R4, R5, r1, r2, r3, r4, r5⟩ hPf hmm4 hnn4).mono ?_); rintro e w5 ⟨⟨S1, S2, S3, S4, s1, s2, s3, s4⟩, A8, k8, rfl, hm5, hb5⟩; have hB5 := Below.step hB4 hB4.size hb5; have hA5 := hA4.keep hb5 hA4.lt; have hU5 := hU4.keep hb5 hU4.lt; have hmu5 := hm4.to hb5 hb5.size; have hz5 := hA5.lt; have hz5' := hU5.lt; clear x0 x1 x2 x3 x4 x5; obtain ⟨x0, x1, x2, x3, x4, x5⟩ := hA5.rbox; obtain ⟨u0, u1, u2, u3, u4⟩ := hU5.box)
                      have hb5x : Below w5.heap.size w5 (w5.alloc (.cells #[.int .i64 C.i, .slice S1 C.nl s1, .slice S2 C.na s2, .slice S3 C.nb s3, .slice S4 C.nc s4] 26)) := (Below.refl _ _).alloc (Nat.le_refl _) _
                      have hB5x := Below.step hB5 hB5.size hb5x
                      have HMM := Lib.hid (And.intro (hmu5.to hb5x hb5x.size) (hm5.to hb5x hb5x.size))
                      have hA5x := hA5.keep hb5x hA5.lt
                      clear hb4 hb5 hB4 hB3x hA4 hA3x hm4 hm3x hU4 hU3x hR3x hb3x hmm4 hnn4 hB5 hA5 hmu5 hm5 hU5 hb5x
                      go_wp2_with (go_at_call 11; (with_reducible refine (same_self C ⟨Q1, Q2, Q3, Q4, l1, l2, l3, l4⟩ ⟨S1, S2, S3, S4, s1, s2, s3, s4⟩ _ SC.out HMM.out.1 HMM.out.2).mono ?_); rintro e w6 ⟨rfl, hb6⟩; have hB6 := Below.step hB5x hB5x.size hb6; have hA6 := hA5x.keep hb6 hA5x.lt; clear x0 x1 x2 x3 x4 x5; obtain ⟨x0, x1, x2, x3, x4, x5⟩ := hA6.rbox)
                      go_wp2_with (go_at_call 15; (with_reducible refine (AL.out _).mono ?_); rintro e w7 ⟨rfl, hb7⟩; have hB7 := Below.step hB6 hB6.size hb7)
                      go_ret
                      exact ⟨rfl, hB7⟩
          · obtain ⟨K, hK⟩ : ∃ K, c0.chk = K := ⟨_, rfl⟩
            have K0 : Hid (∀ W, Below w.heap.size w W → Calls Try.prog 19 #[rv c0 p0] W fun e w' => e = .returned (.int .i64 K) ∧ Below W.heap.size W w') := fun W hb => by rw [← hK]; exact oRCheck_any c0 p0 W HS.out (HM.out.to hb hb.size) HN.out
            rw [hK] at hK4
            have k0 : (K != 0) = true := by simp; omega
            have k1' : (K != 41) = true := by simp; omega
            have k2' : (K != 43) = true := by simp; omega
            have k3' : (K != 46) = true := by simp; omega
            clear hs hm0 hN0 hv0 hC0 hg hm1 hN1 hC1 hr1 hK4 hK
            go_enter Try.func6, Try.ntmps6
            go_wp2_with (go_at_call 16; (with_reducible refine (G0.out _).mono ?_); rintro e w1 ⟨rfl, hb1⟩; have hB1 : Below w.heap.size w w1 := Below.step (by go_grown) (by go_size) hb1; have hA1 : Has w1 w.heap.size 32 (rc c0 p0) := (Has.new w 32 (rc c0 p0)).keep hb1 (by simp); obtain ⟨x0, x1, x2, x3, x4, x5⟩ := hA1.rbox)
            go_wp2_with (go_at_call 19; (with_reducible refine (K0.out _ hB1).mono ?_); rintro e w2 ⟨rfl, hb2⟩; have hB2 := Below.step hB1 hB1.size hb2)
            go_wp2_with (go_at_call 15; (with_reducible refine (AL.out _).mono ?_); rintro e w3 ⟨rfl, hb3⟩; have hB3 := Below.step hB2 hB2.size hb3)
            go_ret
            exact ⟨rfl, hB3⟩
  · go_enter Try.func6, Try.ntmps6
    go_wp2_with (go_at_call 16; refine (oGreat_any c0 p0 _).mono ?_; rintro e w1 ⟨rfl, hb1⟩; have hB1 : Below w.heap.size w w1 := Below.step (by go_grown) (by go_size) hb1; have hA1 : Has w1 w.heap.size 32 (rc c0 p0) := (Has.new w 32 (rc c0 p0)).keep hb1 (by simp); obtain ⟨x0, x1, x2, x3, x4, x5⟩ := hA1.rbox)
    go_wp2_with (go_at_call 15; (with_reducible refine (AL.out _).mono ?_); rintro e w2 ⟨rfl, hb2⟩; have hB2 := Below.step hB1 hB1.size hb2)
    go_ret
    exact ⟨rfl, hB2⟩

set_option maxRecDepth 100000 in
theorem lifted (os : Os) (started : os.Started) (H : Type) (enc : TypeId × Value → H) :
    ReturnsInHanded {} Try.checked os 6 .any (Rows.orderMovedSpec.pre6 enc Try.prog Try.f6 Rows.orderMovedRow.domain false) (Rows.orderMovedSpec.post enc Try.prog Try.f6 false true false false) := by
  refine returnsInHanded_of_change (C := Try.checked) own started (by kernel_rfl) Try.func6
    (ChangeSpec.witness6 (enc := enc) (C := Try.checked) false ⟨#[], #[.agg #[.int .i64 0, .slice none 0 0, .slice none 0 0, .slice none 0 0, .slice none 0 0, .slice none 0 0], .slice none 0 0], []⟩ 12 (by kernel_rfl) (by kernel_rfl) (by kernel_rfl) (by kernel_rfl)) ?_
  intro W base args ds gs before hval0 hW hcnd _
  have hval : ∀ (j : Nat) t v, Try.f6.params[j]? = some t → args[j]? = some v → Value.okWide Try.prog W .any base t v := hval0
  have hW' := hW
  have hlt : ∀ x ∈ before, x.block < W.heap.size := fun x hx => by simpa using hW'.lt x hx
  obtain ⟨p, q, hA0, hV, rfl, hfz, hnd⟩ := hW
  have hA : DataW.TrodAll enc Try.prog W 0 (fun _ => true) true Try.f6.params.toList args.toList ds p := hA0
  rw [Try.params6] at hA hval
  obtain ⟨v0, vs0, d0, ds0, b0, q0, hargs, rfl, rfl, h0, r0⟩ := trodAll_cons hA
  obtain ⟨v1, vs1, d1, ds1, b1, q1, rfl, rfl, rfl, h1, r1⟩ := trodAll_cons r0
  obtain ⟨rfl, rfl, rfl⟩ := trodAll_nil r1
  obtain rfl : args = #[v0, v1] := by cases args; simp_all
  obtain ⟨rfl, rfl⟩ := trodVars_none hV
  obtain ⟨c0, p0, rfl, hm0, hN0, hv0, hC0⟩ := open_raw (hval 0 32 v0 rfl rfl) h0
  obtain ⟨A1, n1, k1, f1, g1, rfl, hm1, hN1, hr11, hr21, hC1⟩ := open_prs (hval 1 56 v1 rfl rfl) h1
  have hr1 := And.intro hr11 hr21
  have hlo : laidOutB Try.prog = true := by kernel_rfl
  clear hA0 hval0
  simp only [List.append_nil] at hW' hlt
  refine (walk c0 p0 A1 n1 k1 f1 g1 W hm0 hN0 hv0 hC0 hm1 hN1 hC1 hr1).mono fun e W' ⟨he, hb⟩ => ?_
  subst he
  have hback := (trodAll_cons_mk (arg_back (W' := W') hlo (by kernel_rfl) (of_decide_eq_true (by kernel_rfl)) h0 hb (fun x hx => hlt x (by simp [hx]))) (trodAll_cons_mk (arg_back (W' := W') hlo (by kernel_rfl) (of_decide_eq_true (by kernel_rfl)) h1 hb (fun x hx => hlt x (by simp [hx]))) trodAll_mk0))
  simp only [List.append_nil, List.nil_append] at hback
  exact ⟨_, rfl, law_post hW' (trodAll_cons_mk (shut_bool Try.underlying4 _) trodAll_mk0) hback rfl hb⟩

theorem over : Rows.orderMovedRow.holds Try.pinned (OpenSpec.ofChange Rows.orderMovedSpec) :=
  OpenClaim.holds_of_wide 6 Try.f6 rfl rfl rfl rfl rfl rfl rfl ⟨rfl, rfl, rfl, rfl, rfl⟩ rfl rfl rfl rfl rfl (by kernel_rfl) Try.func6 (by kernel_rfl)
    (of_decide_eq_true (by kernel_rfl)) (by unfold Func.isWrapper; first | (rw [if_pos (by decide +kernel)]; kernel_rfl) | (rw [if_neg (by decide +kernel)]; exact ⟨rfl, rfl⟩))
    (fun os started H enc _ => lifted os started H enc)

theorem proved : Rows.OrderMovedSaid :=
  over
end Go.Proofs.Ytpdfdbnmohippaa.orderMoved
