/- The clause of literals that are cut and repeated: the walk behind the guards. -/
import Derived.Test.YtigfdfbjpelcaaaClCut
namespace Go.Proofs.Ytigfdfbjpelcaaa
open Go Go.RowKit
set_option linter.unusedVariables false
set_option linter.unusedSimpArgs false

set_option maxRecDepth 100000 in
set_option maxHeartbeats 40000000 in
theorem makes_main (A1 : Option Addr) (l1 : List Int) (k1 : Nat) (n ct : Nat) (w : World) (hm1 : Ia w w.heap.size A1 l1 k1) (hr1 : ∀ x ∈ l1, I64 x) (hl63 : l1.length ≤ 9223372036854775807) (hg : ¬ (n : Int) < 0) (hg2 : ¬ (8 : Int) < (n : Int)) (hg3 : ¬ 30 < l1.length) (hg4 : ¬ (ct : Int) < 0) (hg5 : ¬ (l1.length : Int) < (ct : Int)) :
    Calls Try.prog 8 #[.int .i64 (n : Int), .slice A1 l1.length k1, .int .i64 (ct : Int)] w fun e w' => e = .returned (.bool true) ∧ Below w.heap.size w w' := by
  have hn8 : n ≤ 8 := by omega
  have HM := Lib.hid (And.intro hm1 (And.intro hr1 (And.intro (show l1.length ≤ 30 by omega) (show ct ≤ l1.length by omega))))
  obtain ⟨m, hm⟩ : ∃ m, m = l1.length := ⟨_, rfl⟩
  rw [← hm] at hg3 hg5 hl63 ⊢
  have hm30 : m ≤ 30 := by omega
  have g3 : ¬ (30 : Int) < (m : Int) := by omega
  have HMm := Lib.hid hm
  have HL := Lib.hid fun (x : Int) (W : World) => rLit_any n x (by omega) W
  have d1 : decide ((n : Int) < 0) = false := decide_eq_false hg
  have d2 : decide ((8 : Int) < (n : Int)) = false := decide_eq_false hg2
  have d3 : decide ((30 : Int) < (m : Int)) = false := decide_eq_false g3
  have d4 : decide ((ct : Int) < 0) = false := decide_eq_false hg4
  have d5 : decide (m < ct) = false := decide_eq_false (by omega)
  have d6 : decide ((m : Int) < (ct : Int)) = false := decide_eq_false (by omega)
  clear hm1 hr1 hm hg3 hl63 hg hg2 g3 hg4 hg5
  go_enter Try.func8, Try.ntmps8
  go_wp2_with (first | (go_at_call 21; (with_reducible refine (alive13_any _).mono ?_); rintro e w1 ⟨rfl, hb1⟩))
  have HB1 := Lib.hid hb1
  go_loopw [8] (fun i wr => ∃ j : Nat, j ≤ m ∧ i = .int .i64 (j : Int) ∧ (∀ q, q < j → isL n (l1.getD q 0) = true) ∧ w1 = wr) (fun i _ => m - (intOf i).toNat)
  case atStart => exact ⟨0, Nat.zero_le _, rfl, fun q hq => absurd hq (Nat.not_lt_zero _), rfl⟩
  case round =>
    clear hb1
    obtain ⟨j, hj, rfl, hok, rfl⟩ := hrel
    by_cases hlt : j < m
    · obtain ⟨b, o, rfl, hb0, hcs⟩ := HM.out.1.cells (by have := HMm.out; omega)
      have hjl : j < l1.length := by have := HMm.out; omega
      have y0 := hcs j hjl
      have y : w1.cell? ⟨b, o + j, none⟩ = some (.int .i64 (l1.getD j 0)) := (HB1.out.cell (cell_lt y0)).trans y0
      have hj1 : (j : Int) < (m : Int) := by omega
      have hj0 : (0 : Int) ≤ (j : Int) := by omega
      have D := HL.out (l1.getD j 0) w1
      obtain ⟨u, hu⟩ : ∃ u, u = l1.getD j 0 := ⟨_, rfl⟩
      rw [← hu] at y D
      cases eL : isL n u with
      | false =>
        rw [eL] at D
        clear hcs hu hok eL y0
        go_wp2_with (first | (go_at_call 24; (with_reducible refine D.mono ?_); rintro e wz ⟨rfl, rfl⟩))
        go_ret
        exact ⟨rfl, HB1.out⟩
      | true =>
        rw [eL] at D
        have HK := Lib.hid (And.intro hok (show isL n (l1.getD j 0) = true by rw [← hu]; exact eL))
        clear hcs hu hok eL y0
        go_wp2_with (first | (go_at_call 24; (with_reducible refine D.mono ?_); rintro e wz ⟨rfl, rfl⟩))
        go_roundw
        case rel => exact ⟨j + 1, by omega, by go_num, fun q hq => by
          rcases Nat.lt_succ_iff_lt_or_eq.1 hq with h' | h'
          · exact HK.out.1 q h'
          · subst h'; exact HK.out.2, by trivial⟩
        case measure => simp [intOf]; omega
    · have hal : ∀ x ∈ l1, isL n x = true := fun x hx => by
        obtain ⟨q, hq, rfl⟩ := mem_getD hx
        exact hok q (by have := HMm.out; omega)
      have hjn : ¬ (j : Int) < (m : Int) := by omega
      have hE := mkE_iff.2 (And.intro (show 0 ≤ (n : Int) by omega) (And.intro (show (n : Int) ≤ 4000 by omega) hal))
      have HA := Lib.hid hal
      obtain ⟨s1, s2, s3⟩ := mk_congr (v := n) (cut_mem l1 ct)
      have hcl : (l1.drop ct ++ l1.take ct ++ l1.take ct).length ≤ 1000 := by simp only [List.length_append, List.length_drop, List.length_take]; have := HM.out.2.2; omega
      have hci : ∀ x ∈ l1.drop ct ++ l1.take ct ++ l1.take ct, I64 x := fun x hx => HM.out.2.1 x ((cut_mem l1 ct x).1 hx)
      have DM := make_any n A1 l1 k1 w1 (HM.out.1.on HB1.out) (by have := HM.out.2.2; omega) HM.out.2.1
      have D2 := fun (A : Option Addr) (k : Nat) (W : World) (h : Ia W W.heap.size A (l1.drop ct ++ l1.take ct ++ l1.take ct) k) => make_any n A _ k W h (by omega) hci
      rw [s1, s2, s3] at D2
      rw [hE] at DM D2
      have hX : mkA n l1 = alw l1 ∧ (alw l1 = true → mkL n l1 = []) ∧ (alw l1 = false → mkL n l1 = srt l1) := ⟨by unfold mkA; simp [hE], fun h => (mk_alw hE h).1, fun h => (mk_yes hE h).1⟩
      have hml : (mkL n l1).length ≤ 30 := by
        unfold mkL
        split
        · exact Nat.le_trans (srt_len l1) HM.out.2.2.1
        · exact Nat.zero_le _
      obtain ⟨Af, kf, hfrom, hIf⟩ := HM.out.1.from ct HM.out.2.2.2
      obtain ⟨At, hto, hIt⟩ := HM.out.1.upto ct HM.out.2.2.2
      generalize mkL n l1 = ml at DM D2 hX hml
      generalize mkA n l1 = xa at DM D2 hX
      have hld : (l1.drop ct).length ≤ 30 := by rw [List.length_drop]; have := HM.out.2.2; omega
      have hlt' : (l1.take ct).length ≤ 30 := by rw [List.length_take]; have := HM.out.2.2; omega
      obtain ⟨ld, hld'⟩ : ∃ ld, ld = l1.drop ct := ⟨_, rfl⟩
      obtain ⟨lt, hlt''⟩ : ∃ lt, lt = l1.take ct := ⟨_, rfl⟩
      rw [← hld', ← hlt''] at D2
      rw [← hld'] at hfrom hIf hld
      rw [← hlt''] at hto hIt hlt'
      rw [← HMm.out] at DM hfrom hto
      obtain ⟨nd, hnd⟩ : ∃ nd, nd = ld.length := ⟨_, rfl⟩
      obtain ⟨nt, hnt⟩ : ∃ nt, nt = lt.length := ⟨_, rfl⟩
      rw [← hnd] at hfrom hld
      rw [← hnt] at hto hlt'
      have HX := Lib.hid (And.intro hX (And.intro hml (And.intro hIf (And.intro hIt (And.intro hnd (And.intro hnt (And.intro hld hlt')))))))
      obtain ⟨nm, hnm⟩ : ∃ nm, nm = ml.length := ⟨_, rfl⟩
      have DM' : Calls Try.prog 10 #[.int .i64 (n : Int), .slice A1 m k1] w1 fun e w' => ∃ A k, e = .returned (.tuple #[.slice A nm k, .bool xa, .int .i64 0]) ∧ Ia w' w'.heap.size A ml k ∧ Below w1.heap.size w1 w' := by rw [hnm]; exact DM
      have D2' : ∀ (A : Option Addr) (k q : Nat) (W : World), Ia W W.heap.size A (ld ++ lt ++ lt) k → q = (ld ++ lt ++ lt).length → Calls Try.prog 10 #[.int .i64 (n : Int), .slice A q k] W fun e w' => ∃ A k, e = .returned (.tuple #[.slice A nm k, .bool xa, .int .i64 0]) ∧ Ia w' w'.heap.size A ml k ∧ Below W.heap.size W w' := fun A k q W h hq => by rw [hq, hnm]; exact D2 A k W h
      have HNM := Lib.hid hnm
      have exx : (xa != xa) = false := by simp
      clear hok hal hE s1 s2 s3 hcl hci DM D2 hX hml hIf hIt hnd hnt hld hlt' hld' hlt'' hnm
      go_wp2_with (first
        | (go_at_call 10; (with_reducible refine DM'.mono ?_); rintro e w2 ⟨A2, k2, rfl, hI2, hb2⟩
           have HB2 := Lib.hid (And.intro (bn HB1.out hb2) hI2)
           clear hI2 hb2))
      refine wp_slots (fun f => Sz f 178 ∧ Slot f 0 (.int .i64 (n : Int)) ∧ Slot f 1 (.slice A1 m k1) ∧ Slot f 2 (.int .i64 (ct : Int))) ⟨⟨rfl, rfl⟩, ⟨rfl⟩, ⟨rfl⟩, ⟨rfl⟩⟩ fun a0 hA0 hR => ?_
      obtain ⟨hZ, hs0, hs1, hs2⟩ := hR
      have HA0 := Lib.hid hA0
      clear hA0
      have hS0 : (fun _ : World => True) w2.drew := trivial
      refine wp_region_T (fun _ : World => True) 22 (by kernel_rfl) ?_
      refine WT.h ?_
      (refine wt_move 0 0 rfl rfl (by kernel_rfl) (by kernel_rfl) (by kernel_rfl) (by kernel_rfl) (fun _ _ _ h => h) rfl hS0 (by (repeat (first | (refine slot_hit (N := 178) ?_ (by rfl); (repeat (refine sz_put ?_)); assumption; done) | (apply slot_miss; focus rfl))); all_goals assumption) rfl ?_); (refine wt_move 2 1 rfl rfl (by kernel_rfl) (by kernel_rfl) (by kernel_rfl) (by kernel_rfl) (fun _ _ _ h => h) rfl hS0 (by (repeat (first | (refine slot_hit (N := 178) ?_ (by rfl); (repeat (refine sz_put ?_)); assumption; done) | (apply slot_miss; focus rfl))); all_goals assumption) rfl ?_); (refine wt_move 3 2 rfl rfl (by kernel_rfl) (by kernel_rfl) (by kernel_rfl) (by kernel_rfl) (fun _ _ _ h => h) rfl hS0 (by (repeat (first | (refine slot_hit (N := 178) ?_ (by rfl); (repeat (refine sz_put ?_)); assumption; done) | (apply slot_miss; focus rfl))); all_goals assumption) rfl ?_)
      (refine wt_take2 4 73 74 (v := ?_) rfl rfl (by kernel_rfl) (by kernel_rfl) (by kernel_rfl) (by kernel_rfl) (fun _ _ _ h => h) rfl hS0 (by (repeat (first | (refine slot_hit (N := 178) ?_ (by rfl); (repeat (refine sz_put ?_)); assumption; done) | (apply slot_miss; focus rfl))); all_goals assumption) (by (repeat (first | (refine slot_hit (N := 178) ?_ (by rfl); (repeat (refine sz_put ?_)); assumption; done) | (apply slot_miss; focus rfl))); all_goals assumption) (fun ev hk hv0 hv1 w hS => ?_) ?_; rotate_left; focus (go_simp; first | exact hfrom _ | (rw [hfrom]; done) | (simp only [hfrom]; done) | rfl))
      (refine wt_move 6 1 rfl rfl (by kernel_rfl) (by kernel_rfl) (by kernel_rfl) (by kernel_rfl) (fun _ _ _ h => h) rfl hS0 (by (repeat (first | (refine slot_hit (N := 178) ?_ (by rfl); (repeat (refine sz_put ?_)); assumption; done) | (apply slot_miss; focus rfl))); all_goals assumption) rfl ?_); (refine wt_move 7 2 rfl rfl (by kernel_rfl) (by kernel_rfl) (by kernel_rfl) (by kernel_rfl) (fun _ _ _ h => h) rfl hS0 (by (repeat (first | (refine slot_hit (N := 178) ?_ (by rfl); (repeat (refine sz_put ?_)); assumption; done) | (apply slot_miss; focus rfl))); all_goals assumption) rfl ?_)
      (refine wt_take2 8 77 78 (v := ?_) rfl rfl (by kernel_rfl) (by kernel_rfl) (by kernel_rfl) (by kernel_rfl) (fun _ _ _ h => h) rfl hS0 (by (repeat (first | (refine slot_hit (N := 178) ?_ (by rfl); (repeat (refine sz_put ?_)); assumption; done) | (apply slot_miss; focus rfl))); all_goals assumption) (by (repeat (first | (refine slot_hit (N := 178) ?_ (by rfl); (repeat (refine sz_put ?_)); assumption; done) | (apply slot_miss; focus rfl))); all_goals assumption) (fun ev hk hv0 hv1 w hS => ?_) ?_; rotate_left; focus (go_simp; first | exact hto _ | (rw [hto]; done) | (simp only [hto]; done) | rfl))
      (refine wt_move 10 1 rfl rfl (by kernel_rfl) (by kernel_rfl) (by kernel_rfl) (by kernel_rfl) (fun _ _ _ h => h) rfl hS0 (by (repeat (first | (refine slot_hit (N := 178) ?_ (by rfl); (repeat (refine sz_put ?_)); assumption; done) | (apply slot_miss; focus rfl))); all_goals assumption) rfl ?_); (refine wt_move 11 2 rfl rfl (by kernel_rfl) (by kernel_rfl) (by kernel_rfl) (by kernel_rfl) (fun _ _ _ h => h) rfl hS0 (by (repeat (first | (refine slot_hit (N := 178) ?_ (by rfl); (repeat (refine sz_put ?_)); assumption; done) | (apply slot_miss; focus rfl))); all_goals assumption) rfl ?_)
      (refine wt_take2 12 81 82 (v := ?_) rfl rfl (by kernel_rfl) (by kernel_rfl) (by kernel_rfl) (by kernel_rfl) (fun _ _ _ h => h) rfl hS0 (by (repeat (first | (refine slot_hit (N := 178) ?_ (by rfl); (repeat (refine sz_put ?_)); assumption; done) | (apply slot_miss; focus rfl))); all_goals assumption) (by (repeat (first | (refine slot_hit (N := 178) ?_ (by rfl); (repeat (refine sz_put ?_)); assumption; done) | (apply slot_miss; focus rfl))); all_goals assumption) (fun ev hk hv0 hv1 w hS => ?_) ?_; rotate_left; focus (go_simp; first | exact hto _ | (rw [hto]; done) | (simp only [hto]; done) | rfl))
      refine wt_val0 1  (by kernel_rfl) rfl rfl rfl  (v := ?_) (w' := ?_) (fun ev hk  => ?_) ?_; rotate_left 2; focus (go_simp; first | rfl | (constructor <;> rfl))
      refine ⟨fun _ => trivial, ?_⟩
      have hBx : Below w2.heap.size w2 (w2.drew.alloc (.cells #[] 3)) := (below_dn (Below.refl _ _) 1).alloc (Nat.le_refl _) _
      have ho5 : Io w2.heap.size (w2.drew.alloc (.cells #[] 3)) (.slice (some ⟨w2.heap.size, 0, none⟩) 0 0) [] := Io.lit (w := w2.drew) rfl (Nat.le_refl _) (by simp)
      have hs5 : Src (w2.drew.alloc (.cells #[] 3)) Af ld.length kf (iC ld) := ((HX.out.2.2.1.on HB2.out.1).on hBx).src
      refine wt_append13 5 72 75 (by kernel_rfl) rfl rfl rfl (by (repeat (first | (refine slot_hit (N := 178) ?_ (by rfl); (repeat (refine sz_put ?_)); assumption; done) | (apply slot_miss; focus rfl))); all_goals assumption) (by (repeat (first | (refine slot_hit (N := 178) ?_ (by rfl); (repeat (refine sz_put ?_)); assumption; done) | (apply slot_miss; focus rfl))); all_goals assumption) rfl (fun ty => io_run w2.heap.size _ [] ho5 Af nd kf ld HX.out.2.2.2.2.1 hs5 (by have := HX.out.2.2.2.2.2.2.1; have := HX.out.2.2.2.2.1; simp; omega) hBx.size ty) (fun v8 w8 hG8 => ?_)
      refine ⟨fun _ => trivial, ?_⟩
      have hB8 := hBx.trans hG8.2
      have hs8 : Src w8 At lt.length k1 (iC lt) := ((HX.out.2.2.2.1.on HB2.out.1).on hB8).src
      refine wt_append13 9 76 79 (by kernel_rfl) rfl rfl rfl (by (repeat (first | (refine slot_hit (N := 178) ?_ (by rfl); (repeat (refine sz_put ?_)); assumption; done) | (apply slot_miss; focus rfl))); all_goals assumption) (by (repeat (first | (refine slot_hit (N := 178) ?_ (by rfl); (repeat (refine sz_put ?_)); assumption; done) | (apply slot_miss; focus rfl))); all_goals assumption) rfl (fun ty => io_run w2.heap.size _ ([] ++ ld) hG8.1 At nt k1 lt HX.out.2.2.2.2.2.1 hs8 (by have := HX.out.2.2.2.2.2.2.1; have := HX.out.2.2.2.2.2.2.2; have := HX.out.2.2.2.2.1; have := HX.out.2.2.2.2.2.1; simp; omega) hB8.size ty) (fun v9 w9 hG9 => ?_)
      refine ⟨fun _ => trivial, ?_⟩
      have hB9 := hB8.trans hG9.2
      have hs9 : Src w9 At lt.length k1 (iC lt) := ((HX.out.2.2.2.1.on HB2.out.1).on hB9).src
      refine wt_append13 13 80 83 (by kernel_rfl) rfl rfl rfl (by (repeat (first | (refine slot_hit (N := 178) ?_ (by rfl); (repeat (refine sz_put ?_)); assumption; done) | (apply slot_miss; focus rfl))); all_goals assumption) (by (repeat (first | (refine slot_hit (N := 178) ?_ (by rfl); (repeat (refine sz_put ?_)); assumption; done) | (apply slot_miss; focus rfl))); all_goals assumption) rfl (fun ty => io_run w2.heap.size _ ([] ++ ld ++ lt) hG9.1 At nt k1 lt HX.out.2.2.2.2.2.1 hs9 (by have := HX.out.2.2.2.2.2.2.1; have := HX.out.2.2.2.2.2.2.2; have := HX.out.2.2.2.2.1; have := HX.out.2.2.2.2.2.1; simp; omega) hB9.size ty) (fun v10 w10 hG10 => ?_)
      refine ⟨fun _ => trivial, ?_⟩
      have hB10 := hB9.trans hG10.2
      have ho10 : Io w2.heap.size w10 v10 (ld ++ lt ++ lt) := hG10.1
      obtain ⟨A10, k10, e10, hI10⟩ := ho10.at
      obtain ⟨q10, hq10⟩ : ∃ q, q = (ld ++ lt ++ lt).length := ⟨_, rfl⟩
      rw [← hq10] at e10
      subst e10
      have D10 := D2' A10 k10 q10 w10 hI10 hq10
      clear hs5 ho5 hs8 hG8 hs9 hG9 hG10 ho10 hI10 D2' hq10 hfrom hto DM'
      refine wt_call2 14 71 84 (by kernel_rfl) rfl rfl rfl (by (repeat (first | (refine slot_hit (N := 178) ?_ (by rfl); (repeat (refine sz_put ?_)); assumption; done) | (apply slot_miss; focus rfl))); all_goals assumption) (by (repeat (first | (refine slot_hit (N := 178) ?_ (by rfl); (repeat (refine sz_put ?_)); assumption; done) | (apply slot_miss; focus rfl))); all_goals assumption) (f := ?_) (args := ?_) (fun ev hk hkf hv0 hv1 => ?_) ?_; rotate_left 2; focus (go_simp; first | rfl | (constructor <;> rfl))
      refine D10.mono ?_
      rintro e w11 ⟨A11, k11, rfl, hI11, hb11⟩
      have hS0 : (fun _ : World => True) w11 := trivial
      refine ⟨_, rfl, fun _ => hS0, ?_⟩
      (refine wt_move 15 85 rfl rfl (by kernel_rfl) (by kernel_rfl) (by kernel_rfl) (by kernel_rfl) (fun _ _ _ h => h) rfl hS0 (by (repeat (first | (refine slot_hit (N := 178) ?_ (by rfl); (repeat (refine sz_put ?_)); assumption; done) | (apply slot_miss; focus rfl))); all_goals assumption) rfl ?_); (refine wt_take1 16 70 (v := ?_) rfl rfl (by kernel_rfl) (by kernel_rfl) (by kernel_rfl) (by kernel_rfl) (fun _ _ _ h => h) rfl hS0 (by (repeat (first | (refine slot_hit (N := 178) ?_ (by rfl); (repeat (refine sz_put ?_)); assumption; done) | (apply slot_miss; focus rfl))); all_goals assumption) (fun ev hk hv0 w hS => ?_) ?_; rotate_left; focus (go_simp; rfl)); (refine wt_take1 17 70 (v := ?_) rfl rfl (by kernel_rfl) (by kernel_rfl) (by kernel_rfl) (by kernel_rfl) (fun _ _ _ h => h) rfl hS0 (by (repeat (first | (refine slot_hit (N := 178) ?_ (by rfl); (repeat (refine sz_put ?_)); assumption; done) | (apply slot_miss; focus rfl))); all_goals assumption) (fun ev hk hv0 w hS => ?_) ?_; rotate_left; focus (go_simp; rfl)); (refine wt_take1 18 70 (v := ?_) rfl rfl (by kernel_rfl) (by kernel_rfl) (by kernel_rfl) (by kernel_rfl) (fun _ _ _ h => h) rfl hS0 (by (repeat (first | (refine slot_hit (N := 178) ?_ (by rfl); (repeat (refine sz_put ?_)); assumption; done) | (apply slot_miss; focus rfl))); all_goals assumption) (fun ev hk hv0 w hS => ?_) ?_; rotate_left; focus (go_simp; rfl)); (refine wt_assign 19 86 rfl rfl (by kernel_rfl) (by kernel_rfl) (by kernel_rfl) (by kernel_rfl) (fun _ _ _ h => h) rfl hS0 (by (repeat (first | (refine slot_hit (N := 178) ?_ (by rfl); (repeat (refine sz_put ?_)); assumption; done) | (apply slot_miss; focus rfl))); all_goals assumption) rfl ?_); (refine wt_assign 20 87 rfl rfl (by kernel_rfl) (by kernel_rfl) (by kernel_rfl) (by kernel_rfl) (fun _ _ _ h => h) rfl hS0 (by (repeat (first | (refine slot_hit (N := 178) ?_ (by rfl); (repeat (refine sz_put ?_)); assumption; done) | (apply slot_miss; focus rfl))); all_goals assumption) rfl ?_); (refine wt_assign 21 88 rfl rfl (by kernel_rfl) (by kernel_rfl) (by kernel_rfl) (by kernel_rfl) (fun _ _ _ h => h) rfl hS0 (by (repeat (first | (refine slot_hit (N := 178) ?_ (by rfl); (repeat (refine sz_put ?_)); assumption; done) | (apply slot_miss; focus rfl))); all_goals assumption) rfl ?_)
      refine wt_done (by kernel_rfl) (NoPanic.normal ?_) _
      have ha := HA0.out
      subst ha
      clear hS0 hs0 hs1 hs2 hZ D10
      have hB11 : Below w2.heap.size w2 w11 := Below.step hB10 hB10.size hb11
      have hml30 := HX.out.2.1
      have hSm := rSame_any A2 ml k2 A11 ml k11 w11 (HB2.out.2.on hB11) (by omega) hI11 (by omega)
      rw [sm_self, ← HNM.out] at hSm
      have hW11 := Lib.hid (And.intro (bn HB2.out.1 hB11) (HB2.out.2.on hB11))
      -- what the clause of the list is
      have hXX : (xa = true ∧ ml = [] ∧ alw l1 = true) ∨ (xa = false ∧ ml = srt l1 ∧ alw l1 = false) := by
        cases e : alw l1 with
        | true => exact Or.inl ⟨HX.out.1.1.trans e, HX.out.1.2.1 e, rfl⟩
        | false => exact Or.inr ⟨HX.out.1.1.trans e, HX.out.1.2.2 e, rfl⟩
      have hoc : OkC n ml := by
        rcases hXX with ⟨_, h, _⟩ | ⟨_, h, h2⟩
        · rw [h]; exact ⟨fun x hx => (by cases hx), List.Pairwise.nil⟩
        · rw [h]; exact (OkC_srt HA.out).2 h2
      have hmi : ∀ x ∈ ml, I64 x := fun x hx => by have := isL_iff.1 (hoc.1 x hx); unfold I64; omega
      have hck : ckE n ml = 0 := ckE_yes (by omega) (by omega) hoc
      have tM : ∀ k, trB n (vals n k) ml = trs (vals n k) ml := fun k => by unfold trB; simp [hck]
      have T1 := fun (k : Nat) (A3 : Option Addr) (k3 : Nat) (W : World) (h4 : Ia W W.heap.size A2 ml k2) (h3 : BlsAt W W.heap.size A3 n (vals n k)) => true_any A2 ml k2 A3 n k3 (vals n k) W h4 (by omega) hmi h3 (by omega)
      have T2 := fun (k : Nat) (A3 : Option Addr) (k3 : Nat) (W : World) (hb : Below w.heap.size w W) (h3 : BlsAt W W.heap.size A3 n (vals n k)) => rHolds_any A1 l1 k1 A3 n k3 (vals n k) W.heap.size W (HM.out.1.on hb) (by have := HM.out.2.2; omega) HA.out h3 (by omega)
      simp only [tM, hck] at T1
      rw [← HNM.out] at T1
      rw [← HMm.out] at T2
      have hpow : 2 ^ n ≤ 256 := Nat.le_trans (Nat.pow_le_pow_right (by decide) hn8) (by decide)
      obtain ⟨M, hM⟩ : ∃ M, M = 2 ^ n := ⟨_, rfl⟩
      rw [← hM] at hpow
      have hsh : (2 : Int) ^ n = (M : Int) := by rw [hM]; simp
      have hmin : min n 64 = n := by omega
      have HOC := Lib.hid (And.intro hoc (And.intro hck hmi))
      clear hM tM hoc hmi hck hI11 hb11 hB11 hB10 hB9 hB8 hBx exx
      rcases hXX with ⟨rfl, hX1, hX2⟩ | ⟨rfl, hX1, hX2⟩
      · have HY := Lib.hid (And.intro hX1 hX2)
        have hnm0 : nm = 0 := by rw [HNM.out, hX1]; rfl
        subst hnm0
        clear hX1 hX2
        go_wp2_with (first
          | (go_at_call 14; (with_reducible refine hSm.mono ?_); rintro e w12 ⟨rfl, hb12⟩))
        go_loopw [15] (fun kk wr => ∃ k : Nat, k ≤ M ∧ kk = .int .i64 (k : Int) ∧ Below w.heap.size w wr ∧ Ia wr wr.heap.size A2 ml k2) (fun kk _ => M - (intOf kk).toNat)
        case atStart => exact ⟨0, Nat.zero_le _, rfl, bn hW11.out.1 hb12, hW11.out.2.on hb12⟩
        case round =>
          clear hb12 hSm
          obtain ⟨k, hk, rfl, hB, hI⟩ := hrel
          by_cases hlt : k < M
          · have hk1 : (k : Int) < (M : Int) := by omega
            have hk0 : (0 : Int) ≤ (k : Int) := by omega
            have hV := values_any n k hn8 (by omega) wr
            have T1' := T1 k
            have T2' := T2 k
            rw [trs_alw HY.out.2] at T2'
            obtain ⟨p, hp⟩ : ∃ p, p = trs (vals n k) ml := ⟨_, rfl⟩
            rw [← hp] at T1'
            clear hp
            go_wp2_with (first
              | (go_at_call 22; (with_reducible refine hV.mono ?_); rintro e w5 ⟨A5, k5, rfl, hm5, hb5⟩
                 have hB5 := bn hB hb5
                 have hI5 := hI.on hb5)
              | (go_at_call 12; (with_reducible refine (T1' A5 k5 w5 hI5 hm5).mono ?_); rintro e w6 ⟨rfl, hb6⟩
                 have hB6 := bn hB5 hb6
                 have hI6 := hI5.on hb6
                 have hm6 := hm5.to hb6 hb6.size)
              | (go_at_call 25; (with_reducible refine (T2' A5 k5 w6 hB6 hm6).mono ?_); rintro e w7 ⟨rfl, rfl⟩))
            go_roundw
            case rel => exact ⟨k + 1, by omega, by go_num, hB6, hI6⟩
            case measure => simp [intOf]; omega
          · obtain rfl : k = M := by omega
            have hkn : ¬ (k : Int) < (k : Int) := by omega
            clear T1 T2
            go_wp2
            go_ret
            exact ⟨rfl, hB⟩
      · have HY := Lib.hid (And.intro hX1 hX2)
        clear hX1 hX2
        go_wp2_with (first
          | (go_at_call 14; (with_reducible refine hSm.mono ?_); rintro e w12 ⟨rfl, hb12⟩))
        go_loopw [15] (fun kk wr => ∃ k : Nat, k ≤ M ∧ kk = .int .i64 (k : Int) ∧ Below w.heap.size w wr ∧ Ia wr wr.heap.size A2 ml k2) (fun kk _ => M - (intOf kk).toNat)
        case atStart => exact ⟨0, Nat.zero_le _, rfl, bn hW11.out.1 hb12, hW11.out.2.on hb12⟩
        case round =>
          clear hb12 hSm
          obtain ⟨k, hk, rfl, hB, hI⟩ := hrel
          by_cases hlt : k < M
          · have hk1 : (k : Int) < (M : Int) := by omega
            have hk0 : (0 : Int) ≤ (k : Int) := by omega
            have hV := values_any n k hn8 (by omega) wr
            have T1' := T1 k
            have T2' := T2 k
            rw [show trs (vals n k) l1 = trs (vals n k) ml by rw [HY.out.1, trs_congr (mem_srt l1)]] at T2'
            obtain ⟨p, hp⟩ : ∃ p, p = trs (vals n k) ml := ⟨_, rfl⟩
            rw [← hp] at T1' T2'
            have epp : (p != p) = false := by simp
            clear hp
            go_wp2_with (first
              | (go_at_call 22; (with_reducible refine hV.mono ?_); rintro e w5 ⟨A5, k5, rfl, hm5, hb5⟩
                 have hB5 := bn hB hb5
                 have hI5 := hI.on hb5)
              | (go_at_call 12; (with_reducible refine (T1' A5 k5 w5 hI5 hm5).mono ?_); rintro e w6 ⟨rfl, hb6⟩
                 have hB6 := bn hB5 hb6
                 have hI6 := hI5.on hb6
                 have hm6 := hm5.to hb6 hb6.size)
              | (go_at_call 25; (with_reducible refine (T2' A5 k5 w6 hB6 hm6).mono ?_); rintro e w7 ⟨rfl, rfl⟩))
            go_roundw
            case rel => exact ⟨k + 1, by omega, by go_num, hB6, hI6⟩
            case measure => simp [intOf]; omega
          · obtain rfl : k = M := by omega
            have hkn : ¬ (k : Int) < (k : Int) := by omega
            have hmE := mkE_iff.2 (And.intro (show 0 ≤ (n : Int) by omega) (And.intro (show (n : Int) ≤ 4000 by omega) HOC.out.1.1))
            obtain ⟨m1, m2⟩ := mk_yes hmE HOC.out.1.alw
            have DA := make_any n A2 ml k2 wr hI (by omega) HOC.out.2.2
            rw [m1, m2, hmE, srt_self HOC.out.1] at DA
            have DA' : Calls Try.prog 10 #[.int .i64 (n : Int), .slice A2 nm k2] wr fun e w' => ∃ A k, e = .returned (.tuple #[.slice A nm k, .bool false, .int .i64 0]) ∧ Ia w' w'.heap.size A ml k ∧ Below wr.heap.size wr w' := by rw [HNM.out]; exact DA
            have DC := fun (W : World) (h : Ia W W.heap.size A2 ml k2) => check_any n A2 ml k2 W h (by omega) HOC.out.2.2
            rw [HOC.out.2.1, ← HNM.out] at DC
            have DS := fun (A : Option Addr) (k : Nat) (W : World) (h : Ia W W.heap.size A ml k) (h2 : Ia W W.heap.size A2 ml k2) => rSame_any A ml k A2 ml k2 W h (by omega) h2 (by omega)
            rw [sm_self, ← HNM.out] at DS
            clear T1 T2 m1 m2 hmE DA
            go_wp2_with (first
              | (go_at_call 10; (with_reducible refine DA'.mono ?_); rintro e w5 ⟨A5, k5, rfl, hI5, hb5⟩
                 have hB5 := bn hB hb5
                 have hI2 := hI.on hb5)
              | (go_at_call 15; (with_reducible refine (DC w5 hI2).mono ?_); rintro e w6 ⟨rfl, d6, rfl⟩
                 have hs6 := DS A5 k5 (w5.drewN d6) (hI5.on (below_dn (Below.refl _ _) d6)) (hI2.on (below_dn (Below.refl _ _) d6)))
              | (go_at_call 14; (with_reducible refine hs6.mono ?_); rintro e w7 ⟨rfl, hb7⟩))
            go_ret
            exact ⟨rfl, bn (below_dn hB5 _) hb7⟩

end Go.Proofs.Ytigfdfbjpelcaaa
