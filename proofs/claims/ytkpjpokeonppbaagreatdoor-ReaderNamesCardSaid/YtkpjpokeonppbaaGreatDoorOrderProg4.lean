/- The contracts of the package order: hasRightLiterals. -/
import Derived.Test.YtkpjpokeonppbaaGreatDoorOrderProg3
import Derived.Test.YtkpjpokeonppbaaGreatDoorHeadTail
import Derived.Test.YtkpjpokeonppbaaGreatDoorOrderRef5
namespace Go.Proofs.YtkpjpokeonppbaaGreatDoor
open Go.RowKit
set_option linter.unusedVariables false
set_option linter.unusedSimpArgs false

/-- the boxes of hasRightLiterals -/
def BoxW (r : Rw) (p : Rp) (b : Nat) (W : World) : Prop :=
  W.cell? ⟨b, 0, none⟩ = some (.int .i64 r.m) ∧ W.cell? ⟨b, 1, none⟩ = some (.slice p.A1 r.ni p.k1) ∧ W.cell? ⟨b, 2, none⟩ = some (.slice p.A2 r.nl p.k2) ∧ W.cell? ⟨b, 3, none⟩ = some (.slice p.A3 r.na p.k3) ∧ W.cell? ⟨b, 4, none⟩ = some (.slice p.A4 r.nb p.k4) ∧ W.cell? ⟨b, 5, none⟩ = some (.slice p.A5 r.nc p.k5) ∧ W.cell? ⟨b + 1, 0, none⟩ = some (isWr b)
theorem boxW {r : Rw} {p : Rp} {b : Nat} {W : World} (h : Has W b 26 (rc r p)) (h2 : Has W (b + 1) 131 #[isWr b]) : BoxW r p b W := ⟨h.cell 0, h.cell 1, h.cell 2, h.cell 3, h.cell 4, h.cell 5, h2.cell 0⟩

set_option maxRecDepth 100000 in
set_option maxHeartbeats 8000000 in
theorem pRight_any (r : Rw) (p : Rp) (w : World) (hs : RSm r) (hm : RMem w w.heap.size r p) (hN : RNils r p) (h0 : 0 ≤ r.m) (h1 : r.m ≤ 1000) :
    Calls Tryz.prog 64 #[rv r p] w fun e w' => e = .returned (.bool (r.dL.all r.dOk && r.uL.all r.uOk)) ∧ Below w.heap.size w w' := by
  have g1 := hs.ni
  have g2 := hs.nl
  have g3 := hs.na
  have g4 := hs.nb
  have g5 := hs.nc
  have lD := dL_len r
  have lU := uL_len r
  have nD' : r.dL.length ≤ 100000 := by omega
  have nU' : r.uL.length ≤ 100000 := by omega
  clear lD lU
  have hA0 : Has ((w.alloc (.cells (rcL r p) 26)).alloc (.cells #[isWr w.heap.size] 131)).drew w.heap.size 26 (rc r p) := (Has.new _ _ _).al _
  have hF0 : Has ((w.alloc (.cells (rcL r p) 26)).alloc (.cells #[isWr w.heap.size] 131)).drew (w.heap.size + 1) 131 #[isWr w.heap.size] := Has.new' _ _ (by simp)
  have hS0 := boxW hA0 hF0
  have hBd : Below w.heap.size w ((w.alloc (.cells (rcL r p) 26)).alloc (.cells #[isWr w.heap.size] 131)).drew := below_dn (((Below.refl _ _).alloc (Nat.le_refl _) _).alloc (by simp) _) 1
  obtain ⟨xd, hxd⟩ : ∃ x, r.dL.all r.dOk = x := ⟨_, rfl⟩
  obtain ⟨xu, hxu⟩ : ∃ x, r.uL.all r.uOk = x := ⟨_, rfl⟩
  have ED := Lib.hid (show anyB (nD r) (fun j => r.dL.getD j 0) r.dL.length = !xd by rw [anyB_list (P := nD r) (Q := r.dOk) (fun x => rfl), hxd])
  have EU := Lib.hid (show anyB (nU r) (fun j => r.uL.getD j 0) r.uL.length = !xu by rw [anyB_list (P := nU r) (Q := r.uOk) (fun x => rfl), hxu])
  rw [hxd, hxu]
  clear hxd hxu
  cases xd
  all_goals
    go_enter Tryz.func64, Tryz.ntmps64
    go_wp2
    refine wp_slots (fun b => Sz b 19 ∧ Slot b 1 (.pointer (some ⟨w.heap.size, 0, none⟩)) ∧ Slot b 3 (.pointer (some ⟨w.heap.size + 1, 0, none⟩)) ∧ Slot b 4 (cantV (w.heap.size + 1))) ⟨⟨rfl, rfl⟩, ⟨rfl⟩, ⟨rfl⟩, ⟨rfl⟩⟩ fun a0 ha0 hR => ?_
    obtain ⟨hZ, hs1, hs3, hs4⟩ := hR
    have HA := Lib.hid ha0
    clear ha0
    refine wp_region_T (BoxW r p w.heap.size) 13 (by kernel_rfl) ?_
    refine WT.h ?_
    (refine wt_take1 0 1 (v := ?_) rfl rfl (by kernel_rfl) (by kernel_rfl) (by kernel_rfl) (by kernel_rfl) (fun _ _ _ h => h) rfl hS0 (by (repeat (first | (refine slot_hit (N := 19) ?_ (by rfl); (repeat (refine sz_put ?_)); assumption; done) | (apply slot_miss; focus rfl))); all_goals assumption) (fun ev hk hv0 w hS => ?_) ?_; rotate_left; focus (obtain ⟨j1, j2, j3, j4, j5, j6, j7⟩ := hS; go_simp; rfl)); (refine wt_move 2 4 rfl rfl (by kernel_rfl) (by kernel_rfl) (by kernel_rfl) (by kernel_rfl) (fun _ _ _ h => h) rfl hS0 (by (repeat (first | (refine slot_hit (N := 19) ?_ (by rfl); (repeat (refine sz_put ?_)); assumption; done) | (apply slot_miss; focus rfl))); all_goals assumption) rfl ?_)
    refine wt_call1 1 7 (by kernel_rfl) rfl rfl rfl (by (repeat (first | (refine slot_hit (N := 19) ?_ (by rfl); (repeat (refine sz_put ?_)); assumption; done) | (apply slot_miss; focus rfl))); all_goals assumption) (f := ?_) (args := ?_) (fun ev hk hkf hv0 => ?_) ?_; rotate_left 2; focus (go_simp; first | rfl | (constructor <;> rfl))
    (with_reducible refine (pDefined_any r p ((w.alloc (.cells (rcL r p) 26)).alloc (.cells #[isWr w.heap.size] 131)).drew hs (hm.to hBd hBd.size) hN).mono ?_)
    rintro e w1 hl1
    obtain ⟨A, k, rfl, hi, hb1⟩ := hl1.at
    have hB1 : Below w.heap.size w w1 := Below.step hBd hBd.size hb1
    have hA1 := hA0.keep hb1 hA0.lt
    have hF1 := hF0.keep hb1 hF0.lt
    refine ⟨_, rfl, fun _ => boxW hA1 hF1, ?_⟩
    refine wt_call2 3 8 9 (by kernel_rfl) rfl rfl rfl (by (repeat (first | (refine slot_hit (N := 19) ?_ (by rfl); (repeat (refine sz_put ?_)); assumption; done) | (apply slot_miss; focus rfl))); all_goals assumption) (by (repeat (first | (refine slot_hit (N := 19) ?_ (by rfl); (repeat (refine sz_put ?_)); assumption; done) | (apply slot_miss; focus rfl))); all_goals assumption) (f := ?_) (args := ?_) (fun ev hk hkf hv0 hv1 => ?_) ?_; rotate_left 2; focus (go_simp; first | rfl | (constructor <;> rfl))
    (with_reducible refine (conCannot r p w.heap.size (w.heap.size + 1) h0 A r.dL.length k (fun j => r.dL.getD j 0) w1 nD' hi h1 hA1 hF1).mono ?_)
    rintro e w2 ⟨rfl, hb2⟩
    rw [ED.out]
    have hB2 : Below w.heap.size w w2 := Below.step hB1 hB1.size hb2
    have hA2 := hA1.keep hb2 hA1.lt
    have hF2 := hF1.keep hb2 hF1.lt
    have hS0 := boxW hA2 hF2
    refine ⟨_, rfl, fun _ => hS0, ?_⟩
    (refine wt_take1 4 10 (v := ?_) rfl rfl (by kernel_rfl) (by kernel_rfl) (by kernel_rfl) (by kernel_rfl) (fun _ _ _ h => h) rfl hS0 (by (repeat (first | (refine slot_hit (N := 19) ?_ (by rfl); (repeat (refine sz_put ?_)); assumption; done) | (apply slot_miss; focus rfl))); all_goals assumption) (fun ev hk hv0 w hS => ?_) ?_; rotate_left; focus (obtain ⟨j1, j2, j3, j4, j5, j6, j7⟩ := hS; go_simp; rfl)); (refine wt_move 5 11 rfl rfl (by kernel_rfl) (by kernel_rfl) (by kernel_rfl) (by kernel_rfl) (fun _ _ _ h => h) rfl hS0 (by (repeat (first | (refine slot_hit (N := 19) ?_ (by rfl); (repeat (refine sz_put ?_)); assumption; done) | (apply slot_miss; focus rfl))); all_goals assumption) rfl ?_)
  · (refine wt_skipD 6 rfl rfl (by kernel_rfl) (by kernel_rfl) (by kernel_rfl) (by kernel_rfl) (fun _ _ _ h => h) (wanted_of rfl rfl (by (repeat (first | (refine slot_hit (N := 19) ?_ (by rfl); (repeat (refine sz_put ?_)); assumption; done) | (apply slot_miss; focus rfl))); all_goals assumption) rfl) hS0 ?_); (refine wt_skipD 7 rfl rfl (by kernel_rfl) (by kernel_rfl) (by kernel_rfl) (by kernel_rfl) (fun _ _ _ h => h) (wanted_of rfl rfl (by (repeat (first | (refine slot_hit (N := 19) ?_ (by rfl); (repeat (refine sz_put ?_)); assumption; done) | (apply slot_miss; focus rfl))); all_goals assumption) rfl) hS0 ?_); (refine wt_skipD 8 rfl rfl (by kernel_rfl) (by kernel_rfl) (by kernel_rfl) (by kernel_rfl) (fun _ _ _ h => h) (wanted_of rfl rfl (by (repeat (first | (refine slot_hit (N := 19) ?_ (by rfl); (repeat (refine sz_put ?_)); assumption; done) | (apply slot_miss; focus rfl))); all_goals assumption) rfl) hS0 ?_); (refine wt_skipD 9 rfl rfl (by kernel_rfl) (by kernel_rfl) (by kernel_rfl) (by kernel_rfl) (fun _ _ _ h => h) (wanted_of rfl rfl (by (repeat (first | (refine slot_hit (N := 19) ?_ (by rfl); (repeat (refine sz_put ?_)); assumption; done) | (apply slot_miss; focus rfl))); all_goals assumption) rfl) hS0 ?_); (refine wt_skipD 10 rfl rfl (by kernel_rfl) (by kernel_rfl) (by kernel_rfl) (by kernel_rfl) (fun _ _ _ h => h) (wanted_of rfl rfl (by (repeat (first | (refine slot_hit (N := 19) ?_ (by rfl); (repeat (refine sz_put ?_)); assumption; done) | (apply slot_miss; focus rfl))); all_goals assumption) rfl) hS0 ?_); (refine wt_take2 11 12 17 (v := ?_) rfl rfl (by kernel_rfl) (by kernel_rfl) (by kernel_rfl) (by kernel_rfl) (fun _ _ _ h => h) rfl hS0 (by (repeat (first | (refine slot_hit (N := 19) ?_ (by rfl); (repeat (refine sz_put ?_)); assumption; done) | (apply slot_miss; focus rfl))); all_goals assumption) (by (repeat (first | (refine slot_hit (N := 19) ?_ (by rfl); (repeat (refine sz_put ?_)); assumption; done) | (apply slot_miss; focus rfl))); all_goals assumption) (fun ev hk hv0 hv1 w hS => ?_) ?_; rotate_left; focus (obtain ⟨j1, j2, j3, j4, j5, j6, j7⟩ := hS; go_simp; rfl)); (refine wt_assign 12 18 rfl rfl (by kernel_rfl) (by kernel_rfl) (by kernel_rfl) (by kernel_rfl) (fun _ _ _ h => h) rfl hS0 (by (repeat (first | (refine slot_hit (N := 19) ?_ (by rfl); (repeat (refine sz_put ?_)); assumption; done) | (apply slot_miss; focus rfl))); all_goals assumption) rfl ?_)
    refine wt_done (by kernel_rfl) (NoPanic.normal ?_) _
    have ha := HA.out
    subst ha
    go_wp2
    go_ret
    exact ⟨rfl, hB2⟩
  · (refine wt_take1 6 1 (v := ?_) rfl rfl (by kernel_rfl) (by kernel_rfl) (by kernel_rfl) (by kernel_rfl) (fun _ _ _ h => h) (wanted_of rfl rfl (by (repeat (first | (refine slot_hit (N := 19) ?_ (by rfl); (repeat (refine sz_put ?_)); assumption; done) | (apply slot_miss; focus rfl))); all_goals assumption) rfl) hS0 (by (repeat (first | (refine slot_hit (N := 19) ?_ (by rfl); (repeat (refine sz_put ?_)); assumption; done) | (apply slot_miss; focus rfl))); all_goals assumption) (fun ev hk hv0 w hS => ?_) ?_; rotate_left; focus (obtain ⟨j1, j2, j3, j4, j5, j6, j7⟩ := hS; go_simp; rfl)); (refine wt_take1 8 3 (v := ?_) rfl rfl (by kernel_rfl) (by kernel_rfl) (by kernel_rfl) (by kernel_rfl) (fun _ _ _ h => h) (wanted_of rfl rfl (by (repeat (first | (refine slot_hit (N := 19) ?_ (by rfl); (repeat (refine sz_put ?_)); assumption; done) | (apply slot_miss; focus rfl))); all_goals assumption) rfl) hS0 (by (repeat (first | (refine slot_hit (N := 19) ?_ (by rfl); (repeat (refine sz_put ?_)); assumption; done) | (apply slot_miss; focus rfl))); all_goals assumption) (fun ev hk hv0 w hS => ?_) ?_; rotate_left; focus (obtain ⟨j1, j2, j3, j4, j5, j6, j7⟩ := hS; go_simp; rfl))
    refine wt_call1 7 13 (by kernel_rfl) rfl rfl (wanted_of rfl rfl (by (repeat (first | (refine slot_hit (N := 19) ?_ (by rfl); (repeat (refine sz_put ?_)); assumption; done) | (apply slot_miss; focus rfl))); all_goals assumption) rfl) (by (repeat (first | (refine slot_hit (N := 19) ?_ (by rfl); (repeat (refine sz_put ?_)); assumption; done) | (apply slot_miss; focus rfl))); all_goals assumption) (f := ?_) (args := ?_) (fun ev hk hkf hv0 => ?_) ?_; rotate_left 2; focus (go_simp; first | rfl | (constructor <;> rfl))
    (with_reducible refine (pUsed_any r p w2 hs (hm.to hB2 hB2.size) hN).mono ?_)
    rintro e w3 hl3
    obtain ⟨A3, k3, rfl, hi3, hb3⟩ := hl3.at
    have hB3 : Below w.heap.size w w3 := Below.step hB2 hB2.size hb3
    have hA3 := hA2.keep hb3 hA2.lt
    have hF3 := hF2.keep hb3 hF2.lt
    refine ⟨_, rfl, fun _ => boxW hA3 hF3, ?_⟩
    refine wt_call2 9 14 15 (by kernel_rfl) rfl rfl (wanted_of rfl rfl (by (repeat (first | (refine slot_hit (N := 19) ?_ (by rfl); (repeat (refine sz_put ?_)); assumption; done) | (apply slot_miss; focus rfl))); all_goals assumption) rfl) (by (repeat (first | (refine slot_hit (N := 19) ?_ (by rfl); (repeat (refine sz_put ?_)); assumption; done) | (apply slot_miss; focus rfl))); all_goals assumption) (by (repeat (first | (refine slot_hit (N := 19) ?_ (by rfl); (repeat (refine sz_put ?_)); assumption; done) | (apply slot_miss; focus rfl))); all_goals assumption) (f := ?_) (args := ?_) (fun ev hk hkf hv0 hv1 => ?_) ?_; rotate_left 2; focus (go_simp; first | rfl | (constructor <;> rfl))
    (with_reducible refine (conWrong r p w.heap.size h0 A3 r.uL.length k3 (fun j => r.uL.getD j 0) w3 nU' hi3 h1 hA3).mono ?_)
    rintro e w4 ⟨rfl, hb4⟩
    rw [EU.out]
    have hB4 : Below w.heap.size w w4 := Below.step hB3 hB3.size hb4
    have hS0 := boxW (hA3.keep hb4 hA3.lt) (hF3.keep hb4 hF3.lt)
    refine ⟨_, rfl, fun _ => hS0, ?_⟩
    (refine wt_take1 10 16 (v := ?_) rfl rfl (by kernel_rfl) (by kernel_rfl) (by kernel_rfl) (by kernel_rfl) (fun _ _ _ h => h) (wanted_of rfl rfl (by (repeat (first | (refine slot_hit (N := 19) ?_ (by rfl); (repeat (refine sz_put ?_)); assumption; done) | (apply slot_miss; focus rfl))); all_goals assumption) rfl) hS0 (by (repeat (first | (refine slot_hit (N := 19) ?_ (by rfl); (repeat (refine sz_put ?_)); assumption; done) | (apply slot_miss; focus rfl))); all_goals assumption) (fun ev hk hv0 w hS => ?_) ?_; rotate_left; focus (obtain ⟨j1, j2, j3, j4, j5, j6, j7⟩ := hS; go_simp; rfl)); (refine wt_take2 11 12 17 (v := ?_) rfl rfl (by kernel_rfl) (by kernel_rfl) (by kernel_rfl) (by kernel_rfl) (fun _ _ _ h => h) rfl hS0 (by (repeat (first | (refine slot_hit (N := 19) ?_ (by rfl); (repeat (refine sz_put ?_)); assumption; done) | (apply slot_miss; focus rfl))); all_goals assumption) (by (repeat (first | (refine slot_hit (N := 19) ?_ (by rfl); (repeat (refine sz_put ?_)); assumption; done) | (apply slot_miss; focus rfl))); all_goals assumption) (fun ev hk hv0 hv1 w hS => ?_) ?_; rotate_left; focus (obtain ⟨j1, j2, j3, j4, j5, j6, j7⟩ := hS; go_simp; rfl)); (refine wt_assign 12 18 rfl rfl (by kernel_rfl) (by kernel_rfl) (by kernel_rfl) (by kernel_rfl) (fun _ _ _ h => h) rfl hS0 (by (repeat (first | (refine slot_hit (N := 19) ?_ (by rfl); (repeat (refine sz_put ?_)); assumption; done) | (apply slot_miss; focus rfl))); all_goals assumption) rfl ?_)
    refine wt_done (by kernel_rfl) (NoPanic.normal ?_) _
    have ha := HA.out
    subst ha
    go_wp2
    go_ret
    exact ⟨Li.ret_bool (by simp), hB4⟩

end Go.Proofs.YtkpjpokeonppbaaGreatDoor
