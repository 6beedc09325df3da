/- For all valid circuits and right runs that are not great: what is cut is the shortest beginning that is a witness, it is cut to itself, and without one there is nothing to cut. No conditions. -/
import Derived.Test.YtnkpmcpinicciabTraceAlive
import Derived.Test.YtnkpmcpinicciabTraceCutKit
import Derived.Test.YtnkpmcpinicciabHeadSlot
namespace Go.Proofs.Ytnkpmcpinicciab.tracesCut
open Go.ChangeShapes Go.WideShapes Go.ChangeAt Go.RowKit
set_option linter.unusedVariables false
set_option linter.unusedSimpArgs false


theorem own : ownKnob Try.prog.godebug = none := by kernel_rfl

set_option maxRecDepth 100000 in
set_option maxHeartbeats 40000000 in
theorem walk (c0 : Cr) (p0 : Pl) (t1 : Tr) (q1 : Tp) (w : World) (hm0 : Mem w w.heap.size c0 p0) (hN0 : Nils c0 p0) (hv0 : Vals c0) (hC0 : Caps c0 p0) (ht1 : TMem w w.heap.size t1 q1) :
    Calls Try.prog 6 #[cv c0 p0, tv t1 q1] w fun e w' => e = .returned (.bool true) ∧ Below w.heap.size w w' := by
  cases hft : ft6 c0 t1
  · go_enter Try.func6, Try.ntmps6
    go_wp2_with (first
      | (go_at_call 26; (with_reducible refine (fit6_any _ (hm0.to (ct_b w c0 p0 t1 q1) (ct_z w c0 p0 t1 q1)) hv0 (ht1.to (ct_b w c0 p0 t1 q1) (ct_z w c0 p0 t1 q1))).mono ?_); rw [hft]; rintro e w1 ⟨rfl, hb1⟩; have hX1 := Bx.first hb1)
      | (go_at_call 18; refine (alive6_any _).mono ?_; rintro e w2 ⟨rfl, hb2⟩; have hX2 := hX1.call hb2))
    go_ret
    exact ⟨rfl, hX2.b⟩
  · obtain ⟨hg, hg1, hk⟩ := ft6_yes hft
    have hgr := Cr.gr_no hg
    have hs : Sm c0 := hv0.sm (by omega) (by omega) (by omega) (by omega)
    have hts := Tr.gr_no hg1
    have hg0 : RArg w w.heap.size c0 p0 t1 q1 := ⟨hm0, hs, ht1, hts⟩
    obtain ⟨hc, hn0, hn1, hrest⟩ := Cr.tck_ok hk
    clear hrest
    have hip := ht1.ip
    have hc2 := ht1.c2
    obtain ⟨A1, kk1, A2, kk2⟩ := q1
    dsimp only at hip hc2
    obtain ⟨a2, rfl, ha2, hr2⟩ := hip hn0
    clear hip hr2 hc
    have W1 : Hid (∀ W n x, 0 < n → n ≤ t1.ni → c0.wte (t1.cut n) = x → RArg W W.heap.size c0 p0 t1 ⟨A1, kk1, some a2, kk2⟩ → Calls Try.prog 10 #[cv c0 p0, .agg #[.slice A1 t1.nf kk1, .slice (some a2) n kk2]] W fun e w' => e = .returned (.tuple #[.int .i64 (c0.wti (t1.cut n)), .int .i64 x]) ∧ Below W.heap.size W w') := fun W n x h0 hn hx hW => wit_cut h0 hn hx W hW
    have HK := Lib.hid hk
    have HFT := Lib.hid hft
    obtain ⟨N, hN⟩ : ∃ N, c0.cun t1 = N := ⟨_, rfl⟩
    clear hg hg1 hft
    by_cases hN0 : 0 < N
    · obtain ⟨e1, e2, e3⟩ := Cr.cun_shw hN hN0
      have HS := Lib.hid e3
      have C1 : Hid (∀ W, RArg W W.heap.size c0 p0 t1 ⟨A1, kk1, some a2, kk2⟩ → Calls Try.prog 11 #[cv c0 p0, .agg #[.slice A1 t1.nf kk1, .slice (some a2) t1.ni kk2]] W (CutIs (t1.cut N) 0 W)) := fun W hW => cut_yes hk hN hN0 W hW
      have C2 : Hid (∀ W q, RArg W W.heap.size c0 p0 (t1.cut N) q → Calls Try.prog 11 #[cv c0 p0, .agg #[.slice q.A1 t1.nf q.k1, .slice q.A2 N q.k2]] W (CutIs (t1.cut N) 0 W)) := fun W q hW => cut_again hk hN hN0 e1 W q hW
      have S1 : Hid (∀ W q q', TMem W W.heap.size (t1.cut N) q → TMem W W.heap.size (t1.cut N) q' → Calls Try.prog 25 #[.agg #[.slice q.A1 t1.nf q.k1, .slice q.A2 N q.k2], .agg #[.slice q'.A1 t1.nf q'.k1, .slice q'.A2 N q'.k2]] W fun e w' => e = .returned (.bool true) ∧ Below W.heap.size W w') := fun W q q' h h' => same_cut hts e1 W q q' h h'
      have HE := Lib.hid (And.intro e1 e2)
      have hNi : (N : Int) ≤ (t1.ni : Int) := by omega
      have hNk : (N : Int) ≤ (kk2 : Int) := by omega
      have hN00 : (0 : Int) ≤ (N : Int) := by omega
      have hNz : ((N : Int) == 0) = false := by simp; omega
      clear hN e1 e2 e3 hk
      go_enter Try.func6, Try.ntmps6
      go_wp2_with (first
        | (go_at_call 26; (with_reducible refine (fit6_any _ (hm0.to (ct_b w c0 p0 t1 ⟨A1, kk1, some a2, kk2⟩) (ct_z w c0 p0 t1 ⟨A1, kk1, some a2, kk2⟩)) hv0 (ht1.to (ct_b w c0 p0 t1 ⟨A1, kk1, some a2, kk2⟩) (ct_z w c0 p0 t1 ⟨A1, kk1, some a2, kk2⟩))).mono ?_); rw [HFT.out]; rintro e w1 ⟨rfl, hb1⟩; have hX1 := Bx.first hb1; have hc1 := hX1.cells; dsimp only at hc1; obtain ⟨x0, x1, x2, x3, x4, x5, x6, z0, z1⟩ := hc1)
        | (go_at_call 11; (with_reducible refine (C1.out _ (hg0.to hX1.b hX1.b.size)).mono ?_); rintro e w2 ⟨q2, rfl, hm2, hb2⟩; have hX2 := hX1.call hb2; have hc2' := hX2.cells; dsimp only at hc2'; obtain ⟨x0, x1, x2, x3, x4, x5, x6, z0, z1⟩ := hc2'))
      have hX3 := hX2.al (.cells #[.slice q2.A1 t1.nf q2.k1, .slice q2.A2 N q2.k2] 32)
      have hT3 : Has (w2.alloc (.cells #[.slice q2.A1 t1.nf q2.k1, .slice q2.A2 N q2.k2] 32)) w2.heap.size 32 #[.slice q2.A1 t1.nf q2.k1, .slice q2.A2 N q2.k2] := Has.new _ _ _
      have hm3 : TMem (w2.alloc (.cells #[.slice q2.A1 t1.nf q2.k1, .slice q2.A2 N q2.k2] 32)) (w2.alloc (.cells #[.slice q2.A1 t1.nf q2.k1, .slice q2.A2 N q2.k2] 32)).heap.size (t1.cut N) q2 := hm2.to ((Below.refl _ _).alloc (Nat.le_refl _) _) (by simp)
      clear x0 x1 x2 x3 x4 x5 x6 z0 z1
      go_loopw [7, 8] (fun f i wr => ∃ n : Nat, 1 ≤ n ∧ n ≤ N + 1 ∧ i = .int .i64 n ∧ f = .int .i64 (if n ≤ N then 0 else (N : Int)) ∧ Bx w wr c0 p0 t1 ⟨A1, kk1, some a2, kk2⟩ ∧ Has wr w2.heap.size 32 #[.slice q2.A1 t1.nf q2.k1, .slice q2.A2 N q2.k2] ∧ TMem wr wr.heap.size (t1.cut N) q2) (fun _ i _ => N + 1 - (intOf i).toNat)
      case atStart => exact ⟨1, by omega, by omega, rfl, by rw [if_pos (by omega)], hX3, hT3, hm3⟩
      case round =>
        clear hX3 hT3 hm3
        obtain ⟨n, hn1', hn2', rfl, rfl, hX, hT, hm⟩ := hrel
        have hcx := hX.cells
        dsimp only at hcx
        obtain ⟨x0, x1, x2, x3, x4, x5, x6, z0, z1⟩ := hcx
        have u0 : wr.cell? ⟨w2.heap.size, 0, none⟩ = some (.slice q2.A1 t1.nf q2.k1) := hT.cell 0
        have u1 : wr.cell? ⟨w2.heap.size, 1, none⟩ = some (.slice q2.A2 N q2.k2) := hT.cell 1
        have uz := hT.lt
        by_cases hlt : n ≤ N
        · rw [if_pos hlt]
          have hni : (n : Int) ≤ (t1.ni : Int) := by omega
          have hnk : (n : Int) ≤ (kk2 : Int) := by omega
          have hn00 : (0 : Int) ≤ (n : Int) := by omega
          obtain ⟨x, hx⟩ : ∃ x, c0.wte (t1.cut n) = x := ⟨_, rfl⟩
          have hgd : RArg wr.drew wr.drew.heap.size c0 p0 t1 ⟨A1, kk1, some a2, kk2⟩ := hg0.to (below_dn hX.b 1) hX.b.size
          have HW := Lib.hid (W1.out wr.drew n x (by omega) (by omega) hx hgd)
          have HX : Hid ((n < N → x = 57) ∧ (n = N → x = 0)) := by
            have := Cr.wte_cut (c := c0) (t := t1) (n := n) HK.out (by omega) (by omega)
            rw [hx] at this
            refine ⟨fun h => ?_, fun h => ?_⟩
            · rw [this, if_neg]
              have := HS.out n (by omega) h
              omega
            · subst h
              rw [this, if_pos HE.out.2]
          have hS0 : (fun w' : World => CS w.heap.size c0 p0 ⟨w.heap.size + 1, 0, none⟩ (.slice A1 t1.nf kk1) w' ∧ w'.cell? ⟨w.heap.size + 1, 1, none⟩ = some (.slice (some a2) t1.ni kk2)) wr.drew := ⟨cs_of hX.c x5, x6⟩
          have HS0 := Lib.hid hS0
          clear hx hgd hS0
          go_wp2
          refine wp_slots (fun f => Sz f 96 ∧ Slot f 2 (.pointer (some ⟨w.heap.size, 0, none⟩)) ∧ Slot f 3 (.pointer (some ⟨w.heap.size + 1, 0, none⟩)) ∧ Slot f 8 (.int .i64 (n : Int))) ⟨⟨rfl, rfl⟩, ⟨rfl⟩, ⟨rfl⟩, ⟨rfl⟩⟩ fun a0 hA0 hR => ?_
          obtain ⟨hZ, hs2, hs3, hs8⟩ := hR
          have HA := Lib.hid hA0
          clear hA0
          have hS0 := HS0.out
          refine wp_region_T (fun w' : World => CS w.heap.size c0 p0 ⟨w.heap.size + 1, 0, none⟩ (.slice A1 t1.nf kk1) w' ∧ w'.cell? ⟨w.heap.size + 1, 1, none⟩ = some (.slice (some a2) t1.ni kk2)) 14 (by kernel_rfl) ?_
          refine WT.h ?_
          (refine wt_take1 0 2 (v := ?_) rfl rfl (by kernel_rfl) (by kernel_rfl) (by kernel_rfl) (by kernel_rfl) (fun _ _ _ h => h) rfl hS0 (by (repeat (first | (refine slot_hit (N := 96) ?_ (by rfl); (repeat (refine sz_put ?_)); assumption; done) | (apply slot_miss; focus rfl))); all_goals assumption) (fun ev hk hv0 w hS => ?_) ?_; rotate_left; focus (obtain ⟨⟨j0, j1, j2, j3, j4, j5⟩, j6⟩ := hS; go_simp; rfl)); (refine wt_take1 1 3 (v := ?_) rfl rfl (by kernel_rfl) (by kernel_rfl) (by kernel_rfl) (by kernel_rfl) (fun _ _ _ h => h) rfl hS0 (by (repeat (first | (refine slot_hit (N := 96) ?_ (by rfl); (repeat (refine sz_put ?_)); assumption; done) | (apply slot_miss; focus rfl))); all_goals assumption) (fun ev hk hv0 w hS => ?_) ?_; rotate_left; focus (obtain ⟨⟨j0, j1, j2, j3, j4, j5⟩, j6⟩ := hS; go_simp; rfl)); (refine wt_take1 2 37 (v := ?_) rfl rfl (by kernel_rfl) (by kernel_rfl) (by kernel_rfl) (by kernel_rfl) (fun _ _ _ h => h) rfl hS0 (by (repeat (first | (refine slot_hit (N := 96) ?_ (by rfl); (repeat (refine sz_put ?_)); assumption; done) | (apply slot_miss; focus rfl))); all_goals assumption) (fun ev hk hv0 w hS => ?_) ?_; rotate_left; focus (obtain ⟨⟨j0, j1, j2, j3, j4, j5⟩, j6⟩ := hS; go_simp; rfl)); (refine wt_take1 3 3 (v := ?_) rfl rfl (by kernel_rfl) (by kernel_rfl) (by kernel_rfl) (by kernel_rfl) (fun _ _ _ h => h) rfl hS0 (by (repeat (first | (refine slot_hit (N := 96) ?_ (by rfl); (repeat (refine sz_put ?_)); assumption; done) | (apply slot_miss; focus rfl))); all_goals assumption) (fun ev hk hv0 w hS => ?_) ?_; rotate_left; focus (obtain ⟨⟨j0, j1, j2, j3, j4, j5⟩, j6⟩ := hS; go_simp; rfl)); (refine wt_take1 4 39 (v := ?_) rfl rfl (by kernel_rfl) (by kernel_rfl) (by kernel_rfl) (by kernel_rfl) (fun _ _ _ h => h) rfl hS0 (by (repeat (first | (refine slot_hit (N := 96) ?_ (by rfl); (repeat (refine sz_put ?_)); assumption; done) | (apply slot_miss; focus rfl))); all_goals assumption) (fun ev hk hv0 w hS => ?_) ?_; rotate_left; focus (obtain ⟨⟨j0, j1, j2, j3, j4, j5⟩, j6⟩ := hS; go_simp; rfl)); (refine wt_move 5 8 rfl rfl (by kernel_rfl) (by kernel_rfl) (by kernel_rfl) (by kernel_rfl) (fun _ _ _ h => h) rfl hS0 (by (repeat (first | (refine slot_hit (N := 96) ?_ (by rfl); (repeat (refine sz_put ?_)); assumption; done) | (apply slot_miss; focus rfl))); all_goals assumption) rfl ?_); (refine wt_take2 6 40 41 (v := ?_) rfl rfl (by kernel_rfl) (by kernel_rfl) (by kernel_rfl) (by kernel_rfl) (fun _ _ _ h => h) rfl hS0 (by (repeat (first | (refine slot_hit (N := 96) ?_ (by rfl); (repeat (refine sz_put ?_)); assumption; done) | (apply slot_miss; focus rfl))); all_goals assumption) (by (repeat (first | (refine slot_hit (N := 96) ?_ (by rfl); (repeat (refine sz_put ?_)); assumption; done) | (apply slot_miss; focus rfl))); all_goals assumption) (fun ev hk hv0 hv1 w hS => ?_) ?_; rotate_left; focus (obtain ⟨⟨j0, j1, j2, j3, j4, j5⟩, j6⟩ := hS; go_simp; rfl)); (refine wt_take2 7 38 42 (v := ?_) rfl rfl (by kernel_rfl) (by kernel_rfl) (by kernel_rfl) (by kernel_rfl) (fun _ _ _ h => h) rfl hS0 (by (repeat (first | (refine slot_hit (N := 96) ?_ (by rfl); (repeat (refine sz_put ?_)); assumption; done) | (apply slot_miss; focus rfl))); all_goals assumption) (by (repeat (first | (refine slot_hit (N := 96) ?_ (by rfl); (repeat (refine sz_put ?_)); assumption; done) | (apply slot_miss; focus rfl))); all_goals assumption) (fun ev hk hv0 hv1 w hS => ?_) ?_; rotate_left; focus (obtain ⟨⟨j0, j1, j2, j3, j4, j5⟩, j6⟩ := hS; go_simp; rfl))
          refine wt_call2 8 36 43 (by kernel_rfl) rfl rfl rfl (by (repeat (first | (refine slot_hit (N := 96) ?_ (by rfl); (repeat (refine sz_put ?_)); assumption; done) | (apply slot_miss; focus rfl))); all_goals assumption) (by (repeat (first | (refine slot_hit (N := 96) ?_ (by rfl); (repeat (refine sz_put ?_)); assumption; done) | (apply slot_miss; focus rfl))); all_goals assumption) (f := ?_) (args := ?_) (fun ev hk hkf hv0 hv1 => ?_) ?_; rotate_left 2; focus (go_simp; first | rfl | (constructor <;> rfl))
          (with_reducible refine HW.out.mono ?_)
          rintro e w5 ⟨rfl, hb5⟩
          have hb5' : Below wr.heap.size wr w5 := Below.undn' hb5
          have hX5 := hX.call hb5'
          have hT5 := hT.keep hb5' hT.lt
          have hm5 := hm.to hb5' hb5'.size
          have hS0 : (fun w' : World => CS w.heap.size c0 p0 ⟨w.heap.size + 1, 0, none⟩ (.slice A1 t1.nf kk1) w' ∧ w'.cell? ⟨w.heap.size + 1, 1, none⟩ = some (.slice (some a2) t1.ni kk2)) w5 := ⟨HS0.out.1.keep hb5, (hb5.cell (cell_lt HS0.out.2)).trans HS0.out.2⟩
          refine ⟨_, rfl, fun _ => hS0, ?_⟩
          (refine wt_move 9 44 rfl rfl (by kernel_rfl) (by kernel_rfl) (by kernel_rfl) (by kernel_rfl) (fun _ _ _ h => h) rfl hS0 (by (repeat (first | (refine slot_hit (N := 96) ?_ (by rfl); (repeat (refine sz_put ?_)); assumption; done) | (apply slot_miss; focus rfl))); all_goals assumption) rfl ?_); (refine wt_take1 10 35 (v := ?_) rfl rfl (by kernel_rfl) (by kernel_rfl) (by kernel_rfl) (by kernel_rfl) (fun _ _ _ h => h) rfl hS0 (by (repeat (first | (refine slot_hit (N := 96) ?_ (by rfl); (repeat (refine sz_put ?_)); assumption; done) | (apply slot_miss; focus rfl))); all_goals assumption) (fun ev hk hv0 w hS => ?_) ?_; rotate_left; focus (obtain ⟨⟨j0, j1, j2, j3, j4, j5⟩, j6⟩ := hS; go_simp; rfl)); (refine wt_take1 11 35 (v := ?_) rfl rfl (by kernel_rfl) (by kernel_rfl) (by kernel_rfl) (by kernel_rfl) (fun _ _ _ h => h) rfl hS0 (by (repeat (first | (refine slot_hit (N := 96) ?_ (by rfl); (repeat (refine sz_put ?_)); assumption; done) | (apply slot_miss; focus rfl))); all_goals assumption) (fun ev hk hv0 w hS => ?_) ?_; rotate_left; focus (obtain ⟨⟨j0, j1, j2, j3, j4, j5⟩, j6⟩ := hS; go_simp; rfl)); (refine wt_assign 12 45 rfl rfl (by kernel_rfl) (by kernel_rfl) (by kernel_rfl) (by kernel_rfl) (fun _ _ _ h => h) rfl hS0 (by (repeat (first | (refine slot_hit (N := 96) ?_ (by rfl); (repeat (refine sz_put ?_)); assumption; done) | (apply slot_miss; focus rfl))); all_goals assumption) rfl ?_); (refine wt_assign 13 46 rfl rfl (by kernel_rfl) (by kernel_rfl) (by kernel_rfl) (by kernel_rfl) (fun _ _ _ h => h) rfl hS0 (by (repeat (first | (refine slot_hit (N := 96) ?_ (by rfl); (repeat (refine sz_put ?_)); assumption; done) | (apply slot_miss; focus rfl))); all_goals assumption) rfl ?_)
          refine wt_done (by kernel_rfl) (NoPanic.normal ?_) _
          have ha := HA.out
          subst ha
          clear hS0 hb5 x0 x1 x2 x3 x4 x5 x6 z0 z1 u0 u1 uz hZ hs2 hs3 hs8
          rcases Nat.lt_or_ge n N with hl | hl
          · obtain rfl := HX.out.1 hl
            go_wp2
            go_roundw
            case rel => exact ⟨n + 1, by omega, by omega, by go_num, by rw [if_pos (by omega)], hX5, hT5, hm5⟩
            case measure => simp [intOf]; omega
          · obtain rfl := HX.out.2 (by omega)
            go_wp2
            go_roundw
            case rel => exact ⟨n + 1, by omega, by omega, by go_num, by rw [if_neg (by omega)]; congr 1; omega, hX5, hT5, hm5⟩
            case measure => simp [intOf]; omega
        · obtain ⟨n', hn'⟩ : ∃ n', n' = n := ⟨n, rfl⟩
          subst hn'
          have hn' : n' = N + 1 := by omega
          rw [if_neg hlt]
          have HM := Lib.hid hm
          have HNE := Lib.hid hn'
          have hgd : RArg wr wr.heap.size c0 p0 (t1.cut N) q2 := ⟨hm0.to hX.b hX.b.size, hs, hm, hts.cut HE.out.1⟩
          have HG := Lib.hid hgd
          clear hn1' hn2' hlt hgd hm hn'
          by_cases hle : (n' : Int) ≤ (t1.ni : Int)
          all_goals
            go_wp2_with (go_at_call 11; (with_reducible refine (C2.out wr q2 HG.out).mono ?_); rintro e w4 ⟨q4, rfl, hm4, hb4⟩; have hX4 := hX.call hb4; have hT4 := hT.keep hb4 hT.lt; have hcy := hX4.cells; dsimp only at hcy; obtain ⟨x0, x1, x2, x3, x4, x5, x6, z0, z1⟩ := hcy; have hz4 := hT4.lt)
            have hX5 := hX4.al (.cells #[.slice q4.A1 t1.nf q4.k1, .slice q4.A2 N q4.k2] 32)
            have hT5 := hT4.al (.cells #[.slice q4.A1 t1.nf q4.k1, .slice q4.A2 N q4.k2] 32)
            have hU5 : Has (w4.alloc (.cells #[.slice q4.A1 t1.nf q4.k1, .slice q4.A2 N q4.k2] 32)) w4.heap.size 32 #[.slice q4.A1 t1.nf q4.k1, .slice q4.A2 N q4.k2] := Has.new _ _ _
            have hB4 : Below w4.heap.size w4 (w4.alloc (.cells #[.slice q4.A1 t1.nf q4.k1, .slice q4.A2 N q4.k2] 32)).drew := below_dn ((Below.refl _ _).alloc (Nat.le_refl _) _) 1
            have hm5 : TMem (w4.alloc (.cells #[.slice q4.A1 t1.nf q4.k1, .slice q4.A2 N q4.k2] 32)).drew (w4.alloc (.cells #[.slice q4.A1 t1.nf q4.k1, .slice q4.A2 N q4.k2] 32)).drew.heap.size (t1.cut N) q4 := hm4.to hB4 hB4.size
            have hn5 : TMem (w4.alloc (.cells #[.slice q4.A1 t1.nf q4.k1, .slice q4.A2 N q4.k2] 32)).drew (w4.alloc (.cells #[.slice q4.A1 t1.nf q4.k1, .slice q4.A2 N q4.k2] 32)).drew.heap.size (t1.cut N) q2 := (HM.out.to hb4 hb4.size).to hB4 hB4.size
            have ht5 : TMem (w4.alloc (.cells #[.slice q4.A1 t1.nf q4.k1, .slice q4.A2 N q4.k2] 32)).drew (w4.alloc (.cells #[.slice q4.A1 t1.nf q4.k1, .slice q4.A2 N q4.k2] 32)).drew.heap.size (t1.cut N) ⟨A1, kk1, some a2, kk2⟩ := (ht1.to (below_dn hX5.b 1) hX5.b.size).cut hN0 HE.out.1
            obtain ⟨W5, hW5⟩ : ∃ W5, (w4.alloc (.cells #[.slice q4.A1 t1.nf q4.k1, .slice q4.A2 N q4.k2] 32)).drew = W5 := ⟨_, rfl⟩
            have hS5 : ∀ W, Below W5.heap.size W5 W → (fun w' : World => (w'.cell? ⟨w2.heap.size, 0, none⟩ = some (.slice q2.A1 t1.nf q2.k1) ∧ w'.cell? ⟨w2.heap.size, 1, none⟩ = some (.slice q2.A2 N q2.k2) ∧ w'.cell? ⟨w4.heap.size, 0, none⟩ = some (.slice q4.A1 t1.nf q4.k1) ∧ w'.cell? ⟨w4.heap.size, 1, none⟩ = some (.slice q4.A2 N q4.k2)) ∧ w'.cell? ⟨w.heap.size + 1, 0, none⟩ = some (.slice A1 t1.nf kk1) ∧ w'.cell? ⟨w.heap.size + 1, 1, none⟩ = some (.slice (some a2) t1.ni kk2)) W := fun W hb => by
              subst hW5
              have hT6 := hT5.keep (Below.undn2' hb) hT5.lt
              have hU6 := hU5.keep (Below.undn2' hb) hU5.lt
              have hX6 := hX5.t.keep (Below.undn2' hb) hX5.t.lt
              exact ⟨⟨hT6.cell 0, hT6.cell 1, hU6.cell 0, hU6.cell 1⟩, hX6.cell 0, hX6.cell 1⟩
            have HS5 := Lib.hid hS5
            have HB5 : Hid (Below w.heap.size w W5 ∧ w.heap.size ≤ W5.heap.size) := by subst hW5; exact ⟨below_dn hX5.b 1, (below_dn hX5.b 1).size⟩
            rw [hW5] at hm5 hn5 ht5
            have HW5 := Lib.hid hW5
            clear hS5 hB4 hX5 hT5 hU5 x0 x1 x2 x3 x4 x5 x6 z0 z1 hX4 hT4 hm4 hz4 hX hT
            refine wp_slots (fun f => Sz f 96 ∧ Slot f 3 (.pointer (some ⟨w.heap.size + 1, 0, none⟩)) ∧ Slot f 5 (.pointer (some ⟨w2.heap.size, 0, none⟩)) ∧ Slot f 6 (.int .i64 0) ∧ Slot f 7 (.int .i64 (N : Int)) ∧ Slot f 11 (.pointer (some ⟨w4.heap.size, 0, none⟩)) ∧ Slot f 12 (.int .i64 0)) ⟨⟨rfl, rfl⟩, ⟨rfl⟩, ⟨rfl⟩, ⟨rfl⟩, ⟨rfl⟩, ⟨rfl⟩, ⟨rfl⟩⟩ fun a0 hA0 hR => ?_
            obtain ⟨hZ, hs3, hs5, hs6, hs7, hs11, hs12⟩ := hR
            have HA := Lib.hid hA0
            clear hA0
            refine wp_region_T' HW5.out (fun w' : World => (w'.cell? ⟨w2.heap.size, 0, none⟩ = some (.slice q2.A1 t1.nf q2.k1) ∧ w'.cell? ⟨w2.heap.size, 1, none⟩ = some (.slice q2.A2 N q2.k2) ∧ w'.cell? ⟨w4.heap.size, 0, none⟩ = some (.slice q4.A1 t1.nf q4.k1) ∧ w'.cell? ⟨w4.heap.size, 1, none⟩ = some (.slice q4.A2 N q4.k2)) ∧ w'.cell? ⟨w.heap.size + 1, 0, none⟩ = some (.slice A1 t1.nf kk1) ∧ w'.cell? ⟨w.heap.size + 1, 1, none⟩ = some (.slice (some a2) t1.ni kk2)) 26 (by kernel_rfl) ?_
            have hS0 := HS5.out W5 (Below.refl _ _)
            refine WT.h ?_
            (refine wt_move 0 6 rfl rfl (by kernel_rfl) (by kernel_rfl) (by kernel_rfl) (by kernel_rfl) (fun _ _ _ h => h) rfl hS0 (by (repeat (first | (refine slot_hit (N := 96) ?_ (by rfl); (repeat (refine sz_put ?_)); assumption; done) | (apply slot_miss; focus rfl))); all_goals assumption) rfl ?_); (refine wt_take1 1 71 (v := ?_) rfl rfl (by kernel_rfl) (by kernel_rfl) (by kernel_rfl) (by kernel_rfl) (fun _ _ _ h => h) rfl hS0 (by (repeat (first | (refine slot_hit (N := 96) ?_ (by rfl); (repeat (refine sz_put ?_)); assumption; done) | (apply slot_miss; focus rfl))); all_goals assumption) (fun ev hk hv0 w hS => ?_) ?_; rotate_left; focus (obtain ⟨⟨j0, j1, j2, j3⟩, j4, j5⟩ := hS; go_simp; rfl)); (refine wt_move 2 72 rfl rfl (by kernel_rfl) (by kernel_rfl) (by kernel_rfl) (by kernel_rfl) (fun _ _ _ h => h) rfl hS0 (by (repeat (first | (refine slot_hit (N := 96) ?_ (by rfl); (repeat (refine sz_put ?_)); assumption; done) | (apply slot_miss; focus rfl))); all_goals assumption) rfl ?_); (refine wt_take1 3 5 (v := ?_) rfl rfl (by kernel_rfl) (by kernel_rfl) (by kernel_rfl) (by kernel_rfl) (fun _ _ _ h => h) (wanted_of rfl rfl (by (repeat (first | (refine slot_hit (N := 96) ?_ (by rfl); (repeat (refine sz_put ?_)); assumption; done) | (apply slot_miss; focus rfl))); all_goals assumption) rfl) hS0 (by (repeat (first | (refine slot_hit (N := 96) ?_ (by rfl); (repeat (refine sz_put ?_)); assumption; done) | (apply slot_miss; focus rfl))); all_goals assumption) (fun ev hk hv0 w hS => ?_) ?_; rotate_left; focus (obtain ⟨⟨j0, j1, j2, j3⟩, j4, j5⟩ := hS; go_simp; rfl)); (refine wt_take1 4 3 (v := ?_) rfl rfl (by kernel_rfl) (by kernel_rfl) (by kernel_rfl) (by kernel_rfl) (fun _ _ _ h => h) (wanted_of rfl rfl (by (repeat (first | (refine slot_hit (N := 96) ?_ (by rfl); (repeat (refine sz_put ?_)); assumption; done) | (apply slot_miss; focus rfl))); all_goals assumption) rfl) hS0 (by (repeat (first | (refine slot_hit (N := 96) ?_ (by rfl); (repeat (refine sz_put ?_)); assumption; done) | (apply slot_miss; focus rfl))); all_goals assumption) (fun ev hk hv0 w hS => ?_) ?_; rotate_left; focus (obtain ⟨⟨j0, j1, j2, j3⟩, j4, j5⟩ := hS; go_simp; rfl)); (refine wt_take1 5 75 (v := ?_) rfl rfl (by kernel_rfl) (by kernel_rfl) (by kernel_rfl) (by kernel_rfl) (fun _ _ _ h => h) (wanted_of rfl rfl (by (repeat (first | (refine slot_hit (N := 96) ?_ (by rfl); (repeat (refine sz_put ?_)); assumption; done) | (apply slot_miss; focus rfl))); all_goals assumption) rfl) hS0 (by (repeat (first | (refine slot_hit (N := 96) ?_ (by rfl); (repeat (refine sz_put ?_)); assumption; done) | (apply slot_miss; focus rfl))); all_goals assumption) (fun ev hk hv0 w hS => ?_) ?_; rotate_left; focus (obtain ⟨⟨j0, j1, j2, j3⟩, j4, j5⟩ := hS; go_simp; rfl)); (refine wt_take1 6 3 (v := ?_) rfl rfl (by kernel_rfl) (by kernel_rfl) (by kernel_rfl) (by kernel_rfl) (fun _ _ _ h => h) (wanted_of rfl rfl (by (repeat (first | (refine slot_hit (N := 96) ?_ (by rfl); (repeat (refine sz_put ?_)); assumption; done) | (apply slot_miss; focus rfl))); all_goals assumption) rfl) hS0 (by (repeat (first | (refine slot_hit (N := 96) ?_ (by rfl); (repeat (refine sz_put ?_)); assumption; done) | (apply slot_miss; focus rfl))); all_goals assumption) (fun ev hk hv0 w hS => ?_) ?_; rotate_left; focus (obtain ⟨⟨j0, j1, j2, j3⟩, j4, j5⟩ := hS; go_simp; rfl)); (refine wt_take1 7 77 (v := ?_) rfl rfl (by kernel_rfl) (by kernel_rfl) (by kernel_rfl) (by kernel_rfl) (fun _ _ _ h => h) (wanted_of rfl rfl (by (repeat (first | (refine slot_hit (N := 96) ?_ (by rfl); (repeat (refine sz_put ?_)); assumption; done) | (apply slot_miss; focus rfl))); all_goals assumption) rfl) hS0 (by (repeat (first | (refine slot_hit (N := 96) ?_ (by rfl); (repeat (refine sz_put ?_)); assumption; done) | (apply slot_miss; focus rfl))); all_goals assumption) (fun ev hk hv0 w hS => ?_) ?_; rotate_left; focus (obtain ⟨⟨j0, j1, j2, j3⟩, j4, j5⟩ := hS; go_simp; rfl)); (refine wt_move 8 7 rfl rfl (by kernel_rfl) (by kernel_rfl) (by kernel_rfl) (by kernel_rfl) (fun _ _ _ h => h) (wanted_of rfl rfl (by (repeat (first | (refine slot_hit (N := 96) ?_ (by rfl); (repeat (refine sz_put ?_)); assumption; done) | (apply slot_miss; focus rfl))); all_goals assumption) rfl) hS0 (by (repeat (first | (refine slot_hit (N := 96) ?_ (by rfl); (repeat (refine sz_put ?_)); assumption; done) | (apply slot_miss; focus rfl))); all_goals assumption) rfl ?_); (refine wt_take2 9 78 79 (v := ?_) rfl rfl (by kernel_rfl) (by kernel_rfl) (by kernel_rfl) (by kernel_rfl) (fun _ _ _ h => h) (wanted_of rfl rfl (by (repeat (first | (refine slot_hit (N := 96) ?_ (by rfl); (repeat (refine sz_put ?_)); assumption; done) | (apply slot_miss; focus rfl))); all_goals assumption) rfl) hS0 (by (repeat (first | (refine slot_hit (N := 96) ?_ (by rfl); (repeat (refine sz_put ?_)); assumption; done) | (apply slot_miss; focus rfl))); all_goals assumption) (by (repeat (first | (refine slot_hit (N := 96) ?_ (by rfl); (repeat (refine sz_put ?_)); assumption; done) | (apply slot_miss; focus rfl))); all_goals assumption) (fun ev hk hv0 hv1 w hS => ?_) ?_; rotate_left; focus (obtain ⟨⟨j0, j1, j2, j3⟩, j4, j5⟩ := hS; go_simp; rfl)); (refine wt_take2 10 76 80 (v := ?_) rfl rfl (by kernel_rfl) (by kernel_rfl) (by kernel_rfl) (by kernel_rfl) (fun _ _ _ h => h) (wanted_of rfl rfl (by (repeat (first | (refine slot_hit (N := 96) ?_ (by rfl); (repeat (refine sz_put ?_)); assumption; done) | (apply slot_miss; focus rfl))); all_goals assumption) rfl) hS0 (by (repeat (first | (refine slot_hit (N := 96) ?_ (by rfl); (repeat (refine sz_put ?_)); assumption; done) | (apply slot_miss; focus rfl))); all_goals assumption) (by (repeat (first | (refine slot_hit (N := 96) ?_ (by rfl); (repeat (refine sz_put ?_)); assumption; done) | (apply slot_miss; focus rfl))); all_goals assumption) (fun ev hk hv0 hv1 w hS => ?_) ?_; rotate_left; focus (obtain ⟨⟨j0, j1, j2, j3⟩, j4, j5⟩ := hS; go_simp; rfl))
            refine wt_call2 11 74 81 (by kernel_rfl) rfl rfl (wanted_of rfl rfl (by (repeat (first | (refine slot_hit (N := 96) ?_ (by rfl); (repeat (refine sz_put ?_)); assumption; done) | (apply slot_miss; focus rfl))); all_goals assumption) rfl) (by (repeat (first | (refine slot_hit (N := 96) ?_ (by rfl); (repeat (refine sz_put ?_)); assumption; done) | (apply slot_miss; focus rfl))); all_goals assumption) (by (repeat (first | (refine slot_hit (N := 96) ?_ (by rfl); (repeat (refine sz_put ?_)); assumption; done) | (apply slot_miss; focus rfl))); all_goals assumption) (f := ?_) (args := ?_) (fun ev hk hkf hv0 hv1 => ?_) ?_; rotate_left 2; focus (go_simp; first | rfl | (constructor <;> rfl))
            (with_reducible refine (S1.out W5 q2 ⟨A1, kk1, some a2, kk2⟩ hn5 ht5).mono ?_)
            rintro e w6 ⟨rfl, hb6⟩
            have hS0 := HS5.out w6 hb6
            refine ⟨_, rfl, fun _ => hS0, ?_⟩
            (refine wt_take2 12 73 82 (v := ?_) rfl rfl (by kernel_rfl) (by kernel_rfl) (by kernel_rfl) (by kernel_rfl) (fun _ _ _ h => h) rfl hS0 (by (repeat (first | (refine slot_hit (N := 96) ?_ (by rfl); (repeat (refine sz_put ?_)); assumption; done) | (apply slot_miss; focus rfl))); all_goals assumption) (by (repeat (first | (refine slot_hit (N := 96) ?_ (by rfl); (repeat (refine sz_put ?_)); assumption; done) | (apply slot_miss; focus rfl))); all_goals assumption) (fun ev hk hv0 hv1 w hS => ?_) ?_; rotate_left; focus (obtain ⟨⟨j0, j1, j2, j3⟩, j4, j5⟩ := hS; go_simp; rfl)); (refine wt_move 13 83 rfl rfl (by kernel_rfl) (by kernel_rfl) (by kernel_rfl) (by kernel_rfl) (fun _ _ _ h => h) rfl hS0 (by (repeat (first | (refine slot_hit (N := 96) ?_ (by rfl); (repeat (refine sz_put ?_)); assumption; done) | (apply slot_miss; focus rfl))); all_goals assumption) rfl ?_); (refine wt_move 14 12 rfl rfl (by kernel_rfl) (by kernel_rfl) (by kernel_rfl) (by kernel_rfl) (fun _ _ _ h => h) (wanted_of rfl rfl (by (repeat (first | (refine slot_hit (N := 96) ?_ (by rfl); (repeat (refine sz_put ?_)); assumption; done) | (apply slot_miss; focus rfl))); all_goals assumption) rfl) hS0 (by (repeat (first | (refine slot_hit (N := 96) ?_ (by rfl); (repeat (refine sz_put ?_)); assumption; done) | (apply slot_miss; focus rfl))); all_goals assumption) rfl ?_); (refine wt_take1 15 85 (v := ?_) rfl rfl (by kernel_rfl) (by kernel_rfl) (by kernel_rfl) (by kernel_rfl) (fun _ _ _ h => h) (wanted_of rfl rfl (by (repeat (first | (refine slot_hit (N := 96) ?_ (by rfl); (repeat (refine sz_put ?_)); assumption; done) | (apply slot_miss; focus rfl))); all_goals assumption) rfl) hS0 (by (repeat (first | (refine slot_hit (N := 96) ?_ (by rfl); (repeat (refine sz_put ?_)); assumption; done) | (apply slot_miss; focus rfl))); all_goals assumption) (fun ev hk hv0 w hS => ?_) ?_; rotate_left; focus (obtain ⟨⟨j0, j1, j2, j3⟩, j4, j5⟩ := hS; go_simp; rfl)); (refine wt_take2 16 84 86 (v := ?_) rfl rfl (by kernel_rfl) (by kernel_rfl) (by kernel_rfl) (by kernel_rfl) (fun _ _ _ h => h) rfl hS0 (by (repeat (first | (refine slot_hit (N := 96) ?_ (by rfl); (repeat (refine sz_put ?_)); assumption; done) | (apply slot_miss; focus rfl))); all_goals assumption) (by (repeat (first | (refine slot_hit (N := 96) ?_ (by rfl); (repeat (refine sz_put ?_)); assumption; done) | (apply slot_miss; focus rfl))); all_goals assumption) (fun ev hk hv0 hv1 w hS => ?_) ?_; rotate_left; focus (obtain ⟨⟨j0, j1, j2, j3⟩, j4, j5⟩ := hS; go_simp; rfl)); (refine wt_move 17 87 rfl rfl (by kernel_rfl) (by kernel_rfl) (by kernel_rfl) (by kernel_rfl) (fun _ _ _ h => h) rfl hS0 (by (repeat (first | (refine slot_hit (N := 96) ?_ (by rfl); (repeat (refine sz_put ?_)); assumption; done) | (apply slot_miss; focus rfl))); all_goals assumption) rfl ?_); (refine wt_take1 18 11 (v := ?_) rfl rfl (by kernel_rfl) (by kernel_rfl) (by kernel_rfl) (by kernel_rfl) (fun _ _ _ h => h) (wanted_of rfl rfl (by (repeat (first | (refine slot_hit (N := 96) ?_ (by rfl); (repeat (refine sz_put ?_)); assumption; done) | (apply slot_miss; focus rfl))); all_goals assumption) rfl) hS0 (by (repeat (first | (refine slot_hit (N := 96) ?_ (by rfl); (repeat (refine sz_put ?_)); assumption; done) | (apply slot_miss; focus rfl))); all_goals assumption) (fun ev hk hv0 w hS => ?_) ?_; rotate_left; focus (obtain ⟨⟨j0, j1, j2, j3⟩, j4, j5⟩ := hS; go_simp; rfl)); (refine wt_take1 19 5 (v := ?_) rfl rfl (by kernel_rfl) (by kernel_rfl) (by kernel_rfl) (by kernel_rfl) (fun _ _ _ h => h) (wanted_of rfl rfl (by (repeat (first | (refine slot_hit (N := 96) ?_ (by rfl); (repeat (refine sz_put ?_)); assumption; done) | (apply slot_miss; focus rfl))); all_goals assumption) rfl) hS0 (by (repeat (first | (refine slot_hit (N := 96) ?_ (by rfl); (repeat (refine sz_put ?_)); assumption; done) | (apply slot_miss; focus rfl))); all_goals assumption) (fun ev hk hv0 w hS => ?_) ?_; rotate_left; focus (obtain ⟨⟨j0, j1, j2, j3⟩, j4, j5⟩ := hS; go_simp; rfl))
            refine wt_call2 20 89 90 (by kernel_rfl) rfl rfl (wanted_of rfl rfl (by (repeat (first | (refine slot_hit (N := 96) ?_ (by rfl); (repeat (refine sz_put ?_)); assumption; done) | (apply slot_miss; focus rfl))); all_goals assumption) rfl) (by (repeat (first | (refine slot_hit (N := 96) ?_ (by rfl); (repeat (refine sz_put ?_)); assumption; done) | (apply slot_miss; focus rfl))); all_goals assumption) (by (repeat (first | (refine slot_hit (N := 96) ?_ (by rfl); (repeat (refine sz_put ?_)); assumption; done) | (apply slot_miss; focus rfl))); all_goals assumption) (f := ?_) (args := ?_) (fun ev hk hkf hv0 hv1 => ?_) ?_; rotate_left 2; focus (go_simp; first | rfl | (constructor <;> rfl))
            (with_reducible refine (S1.out w6 q4 q2 (hm5.to hb6 hb6.size) (hn5.to hb6 hb6.size)).mono ?_)
            rintro e w7 ⟨rfl, hb7⟩
            have hb57 := Below.step hb6 hb6.size hb7
            have hS0 := HS5.out w7 hb57
            refine ⟨_, rfl, fun _ => hS0, ?_⟩
            (refine wt_take2 21 88 91 (v := ?_) rfl rfl (by kernel_rfl) (by kernel_rfl) (by kernel_rfl) (by kernel_rfl) (fun _ _ _ h => h) rfl hS0 (by (repeat (first | (refine slot_hit (N := 96) ?_ (by rfl); (repeat (refine sz_put ?_)); assumption; done) | (apply slot_miss; focus rfl))); all_goals assumption) (by (repeat (first | (refine slot_hit (N := 96) ?_ (by rfl); (repeat (refine sz_put ?_)); assumption; done) | (apply slot_miss; focus rfl))); all_goals assumption) (fun ev hk hv0 hv1 w hS => ?_) ?_; rotate_left; focus (obtain ⟨⟨j0, j1, j2, j3⟩, j4, j5⟩ := hS; go_simp; rfl)); (refine wt_move 22 92 rfl rfl (by kernel_rfl) (by kernel_rfl) (by kernel_rfl) (by kernel_rfl) (fun _ _ _ h => h) rfl hS0 (by (repeat (first | (refine slot_hit (N := 96) ?_ (by rfl); (repeat (refine sz_put ?_)); assumption; done) | (apply slot_miss; focus rfl))); all_goals assumption) rfl ?_)
            refine wt_call0 23  (by kernel_rfl) rfl rfl (wanted_of rfl rfl (by (repeat (first | (refine slot_hit (N := 96) ?_ (by rfl); (repeat (refine sz_put ?_)); assumption; done) | (apply slot_miss; focus rfl))); all_goals assumption) rfl)  (f := ?_) (args := ?_) (fun ev hk hkf  => ?_) ?_; rotate_left 2; focus (go_simp; first | rfl | (constructor <;> rfl))
            refine (alive6_any w7).mono ?_
            rintro e w8 ⟨rfl, hb8⟩
            have hb58 := Below.step hb57 hb57.size hb8
            have hS0 := HS5.out w8 hb58
            refine ⟨_, rfl, fun _ => hS0, ?_⟩
            (refine wt_take2 24 93 94 (v := ?_) rfl rfl (by kernel_rfl) (by kernel_rfl) (by kernel_rfl) (by kernel_rfl) (fun _ _ _ h => h) rfl hS0 (by (repeat (first | (refine slot_hit (N := 96) ?_ (by rfl); (repeat (refine sz_put ?_)); assumption; done) | (apply slot_miss; focus rfl))); all_goals assumption) (by (repeat (first | (refine slot_hit (N := 96) ?_ (by rfl); (repeat (refine sz_put ?_)); assumption; done) | (apply slot_miss; focus rfl))); all_goals assumption) (fun ev hk hv0 hv1 w hS => ?_) ?_; rotate_left; focus (obtain ⟨⟨j0, j1, j2, j3⟩, j4, j5⟩ := hS; go_simp; rfl)); (refine wt_assign 25 95 rfl rfl (by kernel_rfl) (by kernel_rfl) (by kernel_rfl) (by kernel_rfl) (fun _ _ _ h => h) rfl hS0 (by (repeat (first | (refine slot_hit (N := 96) ?_ (by rfl); (repeat (refine sz_put ?_)); assumption; done) | (apply slot_miss; focus rfl))); all_goals assumption) rfl ?_)
            refine wt_done (by kernel_rfl) (NoPanic.normal ?_) _
            have ha := HA.out
            subst ha
            go_wp2
            go_ret
            exact ⟨rfl, Below.step HB5.out.1 HB5.out.2 hb58⟩
    · obtain rfl : N = 0 := by omega
      have hall := Cr.cun_all hN
      have HS := Lib.hid hall
      have C1 : Hid (∀ W, RArg W W.heap.size c0 p0 t1 ⟨A1, kk1, some a2, kk2⟩ → Calls Try.prog 11 #[cv c0 p0, .agg #[.slice A1 t1.nf kk1, .slice (some a2) t1.ni kk2]] W fun e w' => ∃ q : Tp, e = .returned (.tuple #[.agg #[.slice q.A1 0 q.k1, .slice q.A2 0 q.k2], .int .i64 6]) ∧ Below W.heap.size W w') := fun W hW => cut_none hk hN W hW
      clear hN hall hk hN0
      go_enter Try.func6, Try.ntmps6
      go_wp2_with (first
        | (go_at_call 26; (with_reducible refine (fit6_any _ (hm0.to (ct_b w c0 p0 t1 ⟨A1, kk1, some a2, kk2⟩) (ct_z w c0 p0 t1 ⟨A1, kk1, some a2, kk2⟩)) hv0 (ht1.to (ct_b w c0 p0 t1 ⟨A1, kk1, some a2, kk2⟩) (ct_z w c0 p0 t1 ⟨A1, kk1, some a2, kk2⟩))).mono ?_); rw [HFT.out]; rintro e w1 ⟨rfl, hb1⟩; have hX1 := Bx.first hb1; have hc1 := hX1.cells; dsimp only at hc1; obtain ⟨x0, x1, x2, x3, x4, x5, x6, z0, z1⟩ := hc1)
        | (go_at_call 11; (with_reducible refine (C1.out _ (hg0.to hX1.b hX1.b.size)).mono ?_); rintro e w2 ⟨q2, rfl, hb2⟩; have hX2 := hX1.call hb2; have hc2' := hX2.cells; dsimp only at hc2'; obtain ⟨x0, x1, x2, x3, x4, x5, x6, z0, z1⟩ := hc2'))
      have hX3 := hX2.al (.cells #[.slice q2.A1 0 q2.k1, .slice q2.A2 0 q2.k2] 32)
      have hT3 : Has (w2.alloc (.cells #[.slice q2.A1 0 q2.k1, .slice q2.A2 0 q2.k2] 32)) w2.heap.size 32 #[.slice q2.A1 0 q2.k1, .slice q2.A2 0 q2.k2] := Has.new _ _ _
      clear x0 x1 x2 x3 x4 x5 x6 z0 z1
      go_loopw [7, 8] (fun f i wr => ∃ n : Nat, 1 ≤ n ∧ n ≤ t1.ni + 1 ∧ i = .int .i64 n ∧ f = .int .i64 0 ∧ Bx w wr c0 p0 t1 ⟨A1, kk1, some a2, kk2⟩ ∧ Has wr w2.heap.size 32 #[.slice q2.A1 0 q2.k1, .slice q2.A2 0 q2.k2]) (fun _ i _ => t1.ni + 1 - (intOf i).toNat)
      case atStart => exact ⟨1, by omega, by omega, rfl, rfl, hX3, hT3⟩
      case round =>
        clear hX3 hT3
        obtain ⟨n, hn1', hn2', rfl, rfl, hX, hT⟩ := hrel
        have hcx := hX.cells
        dsimp only at hcx
        obtain ⟨x0, x1, x2, x3, x4, x5, x6, z0, z1⟩ := hcx
        have u0 : wr.cell? ⟨w2.heap.size, 0, none⟩ = some (.slice q2.A1 0 q2.k1) := hT.cell 0
        have u1 : wr.cell? ⟨w2.heap.size, 1, none⟩ = some (.slice q2.A2 0 q2.k2) := hT.cell 1
        have uz := hT.lt
        by_cases hlt : n ≤ t1.ni
        · have hni : (n : Int) ≤ (t1.ni : Int) := by omega
          have hnk : (n : Int) ≤ (kk2 : Int) := by omega
          have hn00 : (0 : Int) ≤ (n : Int) := by omega
          have hgd : RArg wr.drew wr.drew.heap.size c0 p0 t1 ⟨A1, kk1, some a2, kk2⟩ := hg0.to (below_dn hX.b 1) hX.b.size
          have HW := Lib.hid (W1.out wr.drew n 57 (by omega) hlt (by rw [Cr.wte_cut HK.out (by omega) hlt, if_neg]; have := HS.out n (by omega) hlt; omega) hgd)
          have hS0 : (fun w' : World => CS w.heap.size c0 p0 ⟨w.heap.size + 1, 0, none⟩ (.slice A1 t1.nf kk1) w' ∧ w'.cell? ⟨w.heap.size + 1, 1, none⟩ = some (.slice (some a2) t1.ni kk2)) wr.drew := ⟨cs_of hX.c x5, x6⟩
          have HS0 := Lib.hid hS0
          clear hgd hS0
          go_wp2
          refine wp_slots (fun f => Sz f 96 ∧ Slot f 2 (.pointer (some ⟨w.heap.size, 0, none⟩)) ∧ Slot f 3 (.pointer (some ⟨w.heap.size + 1, 0, none⟩)) ∧ Slot f 8 (.int .i64 (n : Int))) ⟨⟨rfl, rfl⟩, ⟨rfl⟩, ⟨rfl⟩, ⟨rfl⟩⟩ fun a0 hA0 hR => ?_
          obtain ⟨hZ, hs2, hs3, hs8⟩ := hR
          have HA := Lib.hid hA0
          clear hA0
          have hS0 := HS0.out
          refine wp_region_T (fun w' : World => CS w.heap.size c0 p0 ⟨w.heap.size + 1, 0, none⟩ (.slice A1 t1.nf kk1) w' ∧ w'.cell? ⟨w.heap.size + 1, 1, none⟩ = some (.slice (some a2) t1.ni kk2)) 14 (by kernel_rfl) ?_
          refine WT.h ?_
          (refine wt_take1 0 2 (v := ?_) rfl rfl (by kernel_rfl) (by kernel_rfl) (by kernel_rfl) (by kernel_rfl) (fun _ _ _ h => h) rfl hS0 (by (repeat (first | (refine slot_hit (N := 96) ?_ (by rfl); (repeat (refine sz_put ?_)); assumption; done) | (apply slot_miss; focus rfl))); all_goals assumption) (fun ev hk hv0 w hS => ?_) ?_; rotate_left; focus (obtain ⟨⟨j0, j1, j2, j3, j4, j5⟩, j6⟩ := hS; go_simp; rfl)); (refine wt_take1 1 3 (v := ?_) rfl rfl (by kernel_rfl) (by kernel_rfl) (by kernel_rfl) (by kernel_rfl) (fun _ _ _ h => h) rfl hS0 (by (repeat (first | (refine slot_hit (N := 96) ?_ (by rfl); (repeat (refine sz_put ?_)); assumption; done) | (apply slot_miss; focus rfl))); all_goals assumption) (fun ev hk hv0 w hS => ?_) ?_; rotate_left; focus (obtain ⟨⟨j0, j1, j2, j3, j4, j5⟩, j6⟩ := hS; go_simp; rfl)); (refine wt_take1 2 37 (v := ?_) rfl rfl (by kernel_rfl) (by kernel_rfl) (by kernel_rfl) (by kernel_rfl) (fun _ _ _ h => h) rfl hS0 (by (repeat (first | (refine slot_hit (N := 96) ?_ (by rfl); (repeat (refine sz_put ?_)); assumption; done) | (apply slot_miss; focus rfl))); all_goals assumption) (fun ev hk hv0 w hS => ?_) ?_; rotate_left; focus (obtain ⟨⟨j0, j1, j2, j3, j4, j5⟩, j6⟩ := hS; go_simp; rfl)); (refine wt_take1 3 3 (v := ?_) rfl rfl (by kernel_rfl) (by kernel_rfl) (by kernel_rfl) (by kernel_rfl) (fun _ _ _ h => h) rfl hS0 (by (repeat (first | (refine slot_hit (N := 96) ?_ (by rfl); (repeat (refine sz_put ?_)); assumption; done) | (apply slot_miss; focus rfl))); all_goals assumption) (fun ev hk hv0 w hS => ?_) ?_; rotate_left; focus (obtain ⟨⟨j0, j1, j2, j3, j4, j5⟩, j6⟩ := hS; go_simp; rfl)); (refine wt_take1 4 39 (v := ?_) rfl rfl (by kernel_rfl) (by kernel_rfl) (by kernel_rfl) (by kernel_rfl) (fun _ _ _ h => h) rfl hS0 (by (repeat (first | (refine slot_hit (N := 96) ?_ (by rfl); (repeat (refine sz_put ?_)); assumption; done) | (apply slot_miss; focus rfl))); all_goals assumption) (fun ev hk hv0 w hS => ?_) ?_; rotate_left; focus (obtain ⟨⟨j0, j1, j2, j3, j4, j5⟩, j6⟩ := hS; go_simp; rfl)); (refine wt_move 5 8 rfl rfl (by kernel_rfl) (by kernel_rfl) (by kernel_rfl) (by kernel_rfl) (fun _ _ _ h => h) rfl hS0 (by (repeat (first | (refine slot_hit (N := 96) ?_ (by rfl); (repeat (refine sz_put ?_)); assumption; done) | (apply slot_miss; focus rfl))); all_goals assumption) rfl ?_); (refine wt_take2 6 40 41 (v := ?_) rfl rfl (by kernel_rfl) (by kernel_rfl) (by kernel_rfl) (by kernel_rfl) (fun _ _ _ h => h) rfl hS0 (by (repeat (first | (refine slot_hit (N := 96) ?_ (by rfl); (repeat (refine sz_put ?_)); assumption; done) | (apply slot_miss; focus rfl))); all_goals assumption) (by (repeat (first | (refine slot_hit (N := 96) ?_ (by rfl); (repeat (refine sz_put ?_)); assumption; done) | (apply slot_miss; focus rfl))); all_goals assumption) (fun ev hk hv0 hv1 w hS => ?_) ?_; rotate_left; focus (obtain ⟨⟨j0, j1, j2, j3, j4, j5⟩, j6⟩ := hS; go_simp; rfl)); (refine wt_take2 7 38 42 (v := ?_) rfl rfl (by kernel_rfl) (by kernel_rfl) (by kernel_rfl) (by kernel_rfl) (fun _ _ _ h => h) rfl hS0 (by (repeat (first | (refine slot_hit (N := 96) ?_ (by rfl); (repeat (refine sz_put ?_)); assumption; done) | (apply slot_miss; focus rfl))); all_goals assumption) (by (repeat (first | (refine slot_hit (N := 96) ?_ (by rfl); (repeat (refine sz_put ?_)); assumption; done) | (apply slot_miss; focus rfl))); all_goals assumption) (fun ev hk hv0 hv1 w hS => ?_) ?_; rotate_left; focus (obtain ⟨⟨j0, j1, j2, j3, j4, j5⟩, j6⟩ := hS; go_simp; rfl))
          refine wt_call2 8 36 43 (by kernel_rfl) rfl rfl rfl (by (repeat (first | (refine slot_hit (N := 96) ?_ (by rfl); (repeat (refine sz_put ?_)); assumption; done) | (apply slot_miss; focus rfl))); all_goals assumption) (by (repeat (first | (refine slot_hit (N := 96) ?_ (by rfl); (repeat (refine sz_put ?_)); assumption; done) | (apply slot_miss; focus rfl))); all_goals assumption) (f := ?_) (args := ?_) (fun ev hk hkf hv0 hv1 => ?_) ?_; rotate_left 2; focus (go_simp; first | rfl | (constructor <;> rfl))
          (with_reducible refine HW.out.mono ?_)
          rintro e w5 ⟨rfl, hb5⟩
          have hb5' : Below wr.heap.size wr w5 := Below.undn' hb5
          have hX5 := hX.call hb5'
          have hT5 := hT.keep hb5' hT.lt
          have hS0 : (fun w' : World => CS w.heap.size c0 p0 ⟨w.heap.size + 1, 0, none⟩ (.slice A1 t1.nf kk1) w' ∧ w'.cell? ⟨w.heap.size + 1, 1, none⟩ = some (.slice (some a2) t1.ni kk2)) w5 := ⟨HS0.out.1.keep hb5, (hb5.cell (cell_lt HS0.out.2)).trans HS0.out.2⟩
          refine ⟨_, rfl, fun _ => hS0, ?_⟩
          (refine wt_move 9 44 rfl rfl (by kernel_rfl) (by kernel_rfl) (by kernel_rfl) (by kernel_rfl) (fun _ _ _ h => h) rfl hS0 (by (repeat (first | (refine slot_hit (N := 96) ?_ (by rfl); (repeat (refine sz_put ?_)); assumption; done) | (apply slot_miss; focus rfl))); all_goals assumption) rfl ?_); (refine wt_take1 10 35 (v := ?_) rfl rfl (by kernel_rfl) (by kernel_rfl) (by kernel_rfl) (by kernel_rfl) (fun _ _ _ h => h) rfl hS0 (by (repeat (first | (refine slot_hit (N := 96) ?_ (by rfl); (repeat (refine sz_put ?_)); assumption; done) | (apply slot_miss; focus rfl))); all_goals assumption) (fun ev hk hv0 w hS => ?_) ?_; rotate_left; focus (obtain ⟨⟨j0, j1, j2, j3, j4, j5⟩, j6⟩ := hS; go_simp; rfl)); (refine wt_take1 11 35 (v := ?_) rfl rfl (by kernel_rfl) (by kernel_rfl) (by kernel_rfl) (by kernel_rfl) (fun _ _ _ h => h) rfl hS0 (by (repeat (first | (refine slot_hit (N := 96) ?_ (by rfl); (repeat (refine sz_put ?_)); assumption; done) | (apply slot_miss; focus rfl))); all_goals assumption) (fun ev hk hv0 w hS => ?_) ?_; rotate_left; focus (obtain ⟨⟨j0, j1, j2, j3, j4, j5⟩, j6⟩ := hS; go_simp; rfl)); (refine wt_assign 12 45 rfl rfl (by kernel_rfl) (by kernel_rfl) (by kernel_rfl) (by kernel_rfl) (fun _ _ _ h => h) rfl hS0 (by (repeat (first | (refine slot_hit (N := 96) ?_ (by rfl); (repeat (refine sz_put ?_)); assumption; done) | (apply slot_miss; focus rfl))); all_goals assumption) rfl ?_); (refine wt_assign 13 46 rfl rfl (by kernel_rfl) (by kernel_rfl) (by kernel_rfl) (by kernel_rfl) (fun _ _ _ h => h) rfl hS0 (by (repeat (first | (refine slot_hit (N := 96) ?_ (by rfl); (repeat (refine sz_put ?_)); assumption; done) | (apply slot_miss; focus rfl))); all_goals assumption) rfl ?_)
          refine wt_done (by kernel_rfl) (NoPanic.normal ?_) _
          have ha := HA.out
          subst ha
          clear hS0 hb5 x0 x1 x2 x3 x4 x5 x6 z0 z1 u0 u1 uz hZ hs2 hs3 hs8
          go_wp2
          go_roundw
          case rel => exact ⟨n + 1, by omega, by omega, by go_num, rfl, hX5, hT5⟩
          case measure => simp [intOf]; omega
        · have hni : ¬ (n : Int) ≤ (t1.ni : Int) := by omega
          clear hn1' hn2' hlt
          go_wp2_with (go_at_call 18; refine (alive6_any _).mono ?_; rintro e w4 ⟨rfl, hb4⟩; have hX4 := hX.call hb4)
          go_ret
          exact ⟨rfl, hX4.b⟩

set_option maxRecDepth 100000 in
theorem lifted (os : Os) (started : os.Started) (H : Type) (enc : TypeId × Value → H) :
    ReturnsInHanded {} Try.checked os 6 .any (Rows.tracesCutSpec.pre6 enc Try.prog Try.f6 Rows.tracesCutRow.domain false) (Rows.tracesCutSpec.post enc Try.prog Try.f6 false true false false) := by
  refine returnsInHanded_of_change (C := Try.checked) own started (by kernel_rfl) Try.func6
    (ChangeSpec.witness6 (enc := enc) (C := Try.checked) false ⟨#[], #[.agg #[.int .i64 0, .slice none 0 0, .slice none 0 0, .slice none 0 0, .slice none 0 0], .agg #[.slice none 0 0, .slice none 0 0]], []⟩ 12 (by kernel_rfl) (by kernel_rfl) (by kernel_rfl) (by kernel_rfl)) ?_
  intro W base args ds gs before hval0 hW hcnd _
  have hval : ∀ (j : Nat) t v, Try.f6.params[j]? = some t → args[j]? = some v → Value.okWide Try.prog W .any base t v := hval0
  have hW' := hW
  have hlt : ∀ x ∈ before, x.block < W.heap.size := fun x hx => by simpa using hW'.lt x hx
  obtain ⟨p, q, hA0, hV, rfl, hfz, hnd⟩ := hW
  have hA : DataW.TrodAll enc Try.prog W 0 (fun _ => true) true Try.f6.params.toList args.toList ds p := hA0
  rw [Try.params6] at hA hval
  obtain ⟨v0, vs0, d0, ds0, b0, q0, hargs, rfl, rfl, h0, r0⟩ := trodAll_cons hA
  obtain ⟨v1, vs1, d1, ds1, b1, q1, rfl, rfl, rfl, h1, r1⟩ := trodAll_cons r0
  obtain ⟨rfl, rfl, rfl⟩ := trodAll_nil r1
  obtain rfl : args = #[v0, v1] := by cases args; simp_all
  obtain ⟨rfl, rfl⟩ := trodVars_none hV
  obtain ⟨c0, p0, rfl, hm0, hN0, hv0, hC0⟩ := open_circ (hval 0 28 v0 rfl rfl) h0
  obtain ⟨t1, q1, rfl, ht1⟩ := open_tr6 (hval 1 32 v1 rfl rfl) h1
  have hlo : laidOutB Try.prog = true := by kernel_rfl
  clear hA0 hval0
  simp only [List.append_nil] at hW' hlt
  refine (walk c0 p0 t1 q1 W hm0 hN0 hv0 hC0 ht1).mono fun e W' ⟨he, hb⟩ => ?_
  subst he
  have hback := (trodAll_cons_mk (arg_back (W' := W') hlo (by kernel_rfl) (of_decide_eq_true (by kernel_rfl)) h0 hb (fun x hx => hlt x (by simp [hx]))) (trodAll_cons_mk (arg_back (W' := W') hlo (by kernel_rfl) (of_decide_eq_true (by kernel_rfl)) h1 hb (fun x hx => hlt x (by simp [hx]))) trodAll_mk0))
  simp only [List.append_nil, List.nil_append] at hback
  exact ⟨_, rfl, law_post hW' (trodAll_cons_mk (shut_bool Try.underlying4 _) trodAll_mk0) hback rfl hb⟩

theorem over : Rows.tracesCutRow.holds Try.pinned (OpenSpec.ofChange Rows.tracesCutSpec) :=
  OpenClaim.holds_of_wide 6 Try.f6 rfl rfl rfl rfl rfl rfl rfl ⟨rfl, rfl, rfl, rfl, rfl⟩ rfl rfl rfl rfl rfl (by kernel_rfl) Try.func6 (by kernel_rfl)
    (of_decide_eq_true (by kernel_rfl)) (by unfold Func.isWrapper; first | (rw [if_pos (by decide +kernel)]; kernel_rfl) | (rw [if_neg (by decide +kernel)]; exact ⟨rfl, rfl⟩))
    (fun os started H enc _ => lifted os started H enc)

theorem proved : Rows.TracesCutSaid :=
  over
end Go.Proofs.Ytnkpmcpinicciab.tracesCut
