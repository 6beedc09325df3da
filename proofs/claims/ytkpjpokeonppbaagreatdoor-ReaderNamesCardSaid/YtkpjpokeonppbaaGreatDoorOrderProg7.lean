/- The contracts of the package order: the closure of takenGates, and IndexFunc at it. -/
import Derived.Test.YtkpjpokeonppbaaGreatDoorOrderProg6
import Derived.Test.YtkpjpokeonppbaaGreatDoorHeadTail
namespace Go.Proofs.YtkpjpokeonppbaaGreatDoor
open Go.RowKit
set_option linter.unusedVariables false
set_option linter.unusedSimpArgs false

/-- the closure's value -/
abbrev nextV (b : Nat) : Value := .func (.func 95) #[] #[.pointer (some ⟨b, 0, none⟩)]

/-- the gate is left, and its parts are not -/
def nxB (I : Nat → Bool) (l a b : Int) : Bool := I (l / 2).toNat && !I (a / 2).toNat && !I (b / 2).toNat
/-- an index that was found, or -1 -/
def fxI (m n : Nat) : Int := if m < n then (m : Int) else -1

set_option maxRecDepth 100000 in
set_option maxHeartbeats 4000000 in
theorem nextC_any (I : Nat → Bool) (g b N : Nat) (x y z : Int) (w : World) (hR : w.rowIs g 4 N (fun v => .bool (I v))) (hb : Has w b 121 #[.slice (some ⟨g, 0, none⟩) N N]) (x0 : 0 ≤ x) (x1 : x ≤ 2001) (x2 : x / 2 < (N : Int)) (y0 : 0 ≤ y) (y1 : y ≤ 2001) (y2 : y / 2 < (N : Int)) (z0 : 0 ≤ z) (z1 : z ≤ 2001) (z2 : z / 2 < (N : Int)) :
    Calls Tryz.prog 95 #[.agg #[.int .i64 x, .int .i64 y, .int .i64 z], .pointer (some ⟨b, 0, none⟩)] w fun e w' => e = .returned (.bool (nxB I x y z)) ∧ Below w.heap.size w w' := by
  have hbl := hb.lt
  have hb2 := hb.al (.cells #[.int .i64 x, .int .i64 y, .int .i64 z] 32)
  have hR2 := hR.alloc (.cells #[.int .i64 x, .int .i64 y, .int .i64 z] 32)
  have c0 : (w.alloc (.cells #[.int .i64 x, .int .i64 y, .int .i64 z] 32)).cell? ⟨b, 0, none⟩ = some (.slice (some ⟨g, 0, none⟩) N N) := hb2.cell 0
  have u := hR2.cell (show (x / 2).toNat < N by omega)
  have u1 := hR2.cell (show (y / 2).toNat < N by omega)
  have u2 := hR2.cell (show (z / 2).toNat < N by omega)
  have q0 : 0 ≤ x / 2 := by omega
  have q1 : 0 ≤ y / 2 := by omega
  have q2 : 0 ≤ z / 2 := by omega
  have D0 := Lib.hid (fun W => varOf_any x0 x1 W)
  have D1 := Lib.hid (fun W => varOf_any y0 y1 W)
  have D2 := Lib.hid (fun W => varOf_any z0 z1 W)
  obtain ⟨a, ha⟩ : ∃ a, I (x / 2).toNat = a := ⟨_, rfl⟩
  obtain ⟨a1, ha1⟩ : ∃ a, I (y / 2).toNat = a := ⟨_, rfl⟩
  obtain ⟨a2, ha2⟩ : ∃ a, I (z / 2).toNat = a := ⟨_, rfl⟩
  have HU := Lib.hid (show nxB I x y z = (a && !a1 && !a2) by unfold nxB; rw [ha, ha1, ha2])
  rw [ha] at u
  rw [ha1] at u1
  rw [ha2] at u2
  rw [HU.out]
  have hBd : Below w.heap.size w (w.alloc (.cells #[.int .i64 x, .int .i64 y, .int .i64 z] 32)) := (Below.refl _ _).alloc (Nat.le_refl _) _
  have e0 : (w.alloc (.cells #[.int .i64 x, .int .i64 y, .int .i64 z] 32)).cell? ⟨w.heap.size, 0, none⟩ = some (.int .i64 x) := (Has.new w 32 #[.int .i64 x, .int .i64 y, .int .i64 z]).cell 0
  have e1 : (w.alloc (.cells #[.int .i64 x, .int .i64 y, .int .i64 z] 32)).cell? ⟨w.heap.size, 1, none⟩ = some (.int .i64 y) := (Has.new w 32 #[.int .i64 x, .int .i64 y, .int .i64 z]).cell 1
  have e2 : (w.alloc (.cells #[.int .i64 x, .int .i64 y, .int .i64 z] 32)).cell? ⟨w.heap.size, 2, none⟩ = some (.int .i64 z) := (Has.new w 32 #[.int .i64 x, .int .i64 y, .int .i64 z]).cell 2
  have hS0 : (fun w' : World => w'.cell? ⟨b, 0, none⟩ = some (.slice (some ⟨g, 0, none⟩) N N) ∧ w'.cell? ⟨w.heap.size, 0, none⟩ = some (.int .i64 x) ∧ w'.cell? ⟨w.heap.size, 1, none⟩ = some (.int .i64 y) ∧ w'.cell? ⟨w.heap.size, 2, none⟩ = some (.int .i64 z) ∧ w'.cell? ⟨g, (x / 2).toNat, none⟩ = some (.bool a) ∧ w'.cell? ⟨g, (y / 2).toNat, none⟩ = some (.bool a1) ∧ w'.cell? ⟨g, (z / 2).toNat, none⟩ = some (.bool a2)) (w.alloc (.cells #[.int .i64 x, .int .i64 y, .int .i64 z] 32)).drew := ⟨c0, e0, e1, e2, u, u1, u2⟩
  clear ha ha1 ha2 hR hR2 hb hb2 HU u u1 u2 c0 e0 e1 e2
  cases a
  · go_enter Tryz.func95, Tryz.ntmps95
    go_wp2
    refine wp_slots (fun f => Sz f 28 ∧ Slot f 1 (.pointer (some ⟨b, 0, none⟩)) ∧ Slot f 2 (.pointer (some ⟨w.heap.size, 0, none⟩))) ⟨⟨rfl, rfl⟩, ⟨rfl⟩, ⟨rfl⟩⟩ fun a0 hA0 hR => ?_
    obtain ⟨hZ, hs1, hs2⟩ := hR
    have HA := Lib.hid hA0
    clear hA0
    refine wp_region_T (fun w' : World => w'.cell? ⟨b, 0, none⟩ = some (.slice (some ⟨g, 0, none⟩) N N) ∧ w'.cell? ⟨w.heap.size, 0, none⟩ = some (.int .i64 x) ∧ w'.cell? ⟨w.heap.size, 1, none⟩ = some (.int .i64 y) ∧ w'.cell? ⟨w.heap.size, 2, none⟩ = some (.int .i64 z) ∧ w'.cell? ⟨g, (x / 2).toNat, none⟩ = some (.bool false) ∧ w'.cell? ⟨g, (y / 2).toNat, none⟩ = some (.bool a1) ∧ w'.cell? ⟨g, (z / 2).toNat, none⟩ = some (.bool a2)) 25 (by kernel_rfl) ?_
    refine WT.h ?_
    (refine wt_take1 0 1 (v := ?_) rfl rfl (by kernel_rfl) (by kernel_rfl) (by kernel_rfl) (by kernel_rfl) (fun _ _ _ h => h) rfl hS0 (by (repeat (first | (refine slot_hit (N := 28) ?_ (by rfl); (repeat (refine sz_put ?_)); assumption; done) | (apply slot_miss; focus rfl))); all_goals assumption) (fun ev hk hv0 w hS => ?_) ?_; rotate_left; focus (obtain ⟨j0, j1, j2, j3, j4, j5, j6⟩ := hS; go_simp; rfl)); (refine wt_take1 1 2 (v := ?_) rfl rfl (by kernel_rfl) (by kernel_rfl) (by kernel_rfl) (by kernel_rfl) (fun _ _ _ h => h) rfl hS0 (by (repeat (first | (refine slot_hit (N := 28) ?_ (by rfl); (repeat (refine sz_put ?_)); assumption; done) | (apply slot_miss; focus rfl))); all_goals assumption) (fun ev hk hv0 w hS => ?_) ?_; rotate_left; focus (obtain ⟨j0, j1, j2, j3, j4, j5, j6⟩ := hS; go_simp; rfl)); (refine wt_take1 2 5 (v := ?_) rfl rfl (by kernel_rfl) (by kernel_rfl) (by kernel_rfl) (by kernel_rfl) (fun _ _ _ h => h) rfl hS0 (by (repeat (first | (refine slot_hit (N := 28) ?_ (by rfl); (repeat (refine sz_put ?_)); assumption; done) | (apply slot_miss; focus rfl))); all_goals assumption) (fun ev hk hv0 w hS => ?_) ?_; rotate_left; focus (obtain ⟨j0, j1, j2, j3, j4, j5, j6⟩ := hS; go_simp; rfl))
    refine wt_call1 3 6 (by kernel_rfl) rfl rfl rfl (by (repeat (first | (refine slot_hit (N := 28) ?_ (by rfl); (repeat (refine sz_put ?_)); assumption; done) | (apply slot_miss; focus rfl))); all_goals assumption) (f := ?_) (args := ?_) (fun ev hk hkf hv0 => ?_) ?_; rotate_left 2; focus (go_simp; first | rfl | (constructor <;> rfl))
    (with_reducible refine (D0.out _).mono ?_)
    rintro e w1 ⟨rfl, rfl⟩
    refine ⟨_, rfl, fun _ => hS0, ?_⟩
    (refine wt_take2 4 4 7 (v := ?_) rfl rfl (by kernel_rfl) (by kernel_rfl) (by kernel_rfl) (by kernel_rfl) (fun _ _ _ h => h) rfl hS0 (by (repeat (first | (refine slot_hit (N := 28) ?_ (by rfl); (repeat (refine sz_put ?_)); assumption; done) | (apply slot_miss; focus rfl))); all_goals assumption) (by (repeat (first | (refine slot_hit (N := 28) ?_ (by rfl); (repeat (refine sz_put ?_)); assumption; done) | (apply slot_miss; focus rfl))); all_goals assumption) (fun ev hk hv0 hv1 w hS => ?_) ?_; rotate_left; focus (obtain ⟨j0, j1, j2, j3, j4, j5, j6⟩ := hS; go_simp; rfl)); (refine wt_take1 5 8 (v := ?_) rfl rfl (by kernel_rfl) (by kernel_rfl) (by kernel_rfl) (by kernel_rfl) (fun _ _ _ h => h) rfl hS0 (by (repeat (first | (refine slot_hit (N := 28) ?_ (by rfl); (repeat (refine sz_put ?_)); assumption; done) | (apply slot_miss; focus rfl))); all_goals assumption) (fun ev hk hv0 w hS => ?_) ?_; rotate_left; focus (obtain ⟨j0, j1, j2, j3, j4, j5, j6⟩ := hS; go_simp; rfl)); (refine wt_move 6 9 rfl rfl (by kernel_rfl) (by kernel_rfl) (by kernel_rfl) (by kernel_rfl) (fun _ _ _ h => h) rfl hS0 (by (repeat (first | (refine slot_hit (N := 28) ?_ (by rfl); (repeat (refine sz_put ?_)); assumption; done) | (apply slot_miss; focus rfl))); all_goals assumption) rfl ?_); (refine wt_skipD 7 rfl rfl (by kernel_rfl) (by kernel_rfl) (by kernel_rfl) (by kernel_rfl) (fun _ _ _ h => h) (wanted_of rfl rfl (by (repeat (first | (refine slot_hit (N := 28) ?_ (by rfl); (repeat (refine sz_put ?_)); assumption; done) | (apply slot_miss; focus rfl))); all_goals assumption) rfl) hS0 ?_); (refine wt_skipD 8 rfl rfl (by kernel_rfl) (by kernel_rfl) (by kernel_rfl) (by kernel_rfl) (fun _ _ _ h => h) (wanted_of rfl rfl (by (repeat (first | (refine slot_hit (N := 28) ?_ (by rfl); (repeat (refine sz_put ?_)); assumption; done) | (apply slot_miss; focus rfl))); all_goals assumption) rfl) hS0 ?_); (refine wt_skipD 9 rfl rfl (by kernel_rfl) (by kernel_rfl) (by kernel_rfl) (by kernel_rfl) (fun _ _ _ h => h) (wanted_of rfl rfl (by (repeat (first | (refine slot_hit (N := 28) ?_ (by rfl); (repeat (refine sz_put ?_)); assumption; done) | (apply slot_miss; focus rfl))); all_goals assumption) rfl) hS0 ?_); (refine wt_skipD 10 rfl rfl (by kernel_rfl) (by kernel_rfl) (by kernel_rfl) (by kernel_rfl) (fun _ _ _ h => h) (wanted_of rfl rfl (by (repeat (first | (refine slot_hit (N := 28) ?_ (by rfl); (repeat (refine sz_put ?_)); assumption; done) | (apply slot_miss; focus rfl))); all_goals assumption) rfl) hS0 ?_); (refine wt_skipD 11 rfl rfl (by kernel_rfl) (by kernel_rfl) (by kernel_rfl) (by kernel_rfl) (fun _ _ _ h => h) (wanted_of rfl rfl (by (repeat (first | (refine slot_hit (N := 28) ?_ (by rfl); (repeat (refine sz_put ?_)); assumption; done) | (apply slot_miss; focus rfl))); all_goals assumption) rfl) hS0 ?_); (refine wt_skipD 12 rfl rfl (by kernel_rfl) (by kernel_rfl) (by kernel_rfl) (by kernel_rfl) (fun _ _ _ h => h) (wanted_of rfl rfl (by (repeat (first | (refine slot_hit (N := 28) ?_ (by rfl); (repeat (refine sz_put ?_)); assumption; done) | (apply slot_miss; focus rfl))); all_goals assumption) rfl) hS0 ?_); (refine wt_skipD 13 rfl rfl (by kernel_rfl) (by kernel_rfl) (by kernel_rfl) (by kernel_rfl) (fun _ _ _ h => h) (wanted_of rfl rfl (by (repeat (first | (refine slot_hit (N := 28) ?_ (by rfl); (repeat (refine sz_put ?_)); assumption; done) | (apply slot_miss; focus rfl))); all_goals assumption) rfl) hS0 ?_); (refine wt_take2 14 10 17 (v := ?_) rfl rfl (by kernel_rfl) (by kernel_rfl) (by kernel_rfl) (by kernel_rfl) (fun _ _ _ h => h) rfl hS0 (by (repeat (first | (refine slot_hit (N := 28) ?_ (by rfl); (repeat (refine sz_put ?_)); assumption; done) | (apply slot_miss; focus rfl))); all_goals assumption) (by (repeat (first | (refine slot_hit (N := 28) ?_ (by rfl); (repeat (refine sz_put ?_)); assumption; done) | (apply slot_miss; focus rfl))); all_goals assumption) (fun ev hk hv0 hv1 w hS => ?_) ?_; rotate_left; focus (obtain ⟨j0, j1, j2, j3, j4, j5, j6⟩ := hS; go_simp; rfl)); (refine wt_move 15 18 rfl rfl (by kernel_rfl) (by kernel_rfl) (by kernel_rfl) (by kernel_rfl) (fun _ _ _ h => h) rfl hS0 (by (repeat (first | (refine slot_hit (N := 28) ?_ (by rfl); (repeat (refine sz_put ?_)); assumption; done) | (apply slot_miss; focus rfl))); all_goals assumption) rfl ?_); (refine wt_skipD 16 rfl rfl (by kernel_rfl) (by kernel_rfl) (by kernel_rfl) (by kernel_rfl) (fun _ _ _ h => h) (wanted_of rfl rfl (by (repeat (first | (refine slot_hit (N := 28) ?_ (by rfl); (repeat (refine sz_put ?_)); assumption; done) | (apply slot_miss; focus rfl))); all_goals assumption) rfl) hS0 ?_); (refine wt_skipD 17 rfl rfl (by kernel_rfl) (by kernel_rfl) (by kernel_rfl) (by kernel_rfl) (fun _ _ _ h => h) (wanted_of rfl rfl (by (repeat (first | (refine slot_hit (N := 28) ?_ (by rfl); (repeat (refine sz_put ?_)); assumption; done) | (apply slot_miss; focus rfl))); all_goals assumption) rfl) hS0 ?_); (refine wt_skipD 18 rfl rfl (by kernel_rfl) (by kernel_rfl) (by kernel_rfl) (by kernel_rfl) (fun _ _ _ h => h) (wanted_of rfl rfl (by (repeat (first | (refine slot_hit (N := 28) ?_ (by rfl); (repeat (refine sz_put ?_)); assumption; done) | (apply slot_miss; focus rfl))); all_goals assumption) rfl) hS0 ?_); (refine wt_skipD 19 rfl rfl (by kernel_rfl) (by kernel_rfl) (by kernel_rfl) (by kernel_rfl) (fun _ _ _ h => h) (wanted_of rfl rfl (by (repeat (first | (refine slot_hit (N := 28) ?_ (by rfl); (repeat (refine sz_put ?_)); assumption; done) | (apply slot_miss; focus rfl))); all_goals assumption) rfl) hS0 ?_); (refine wt_skipD 20 rfl rfl (by kernel_rfl) (by kernel_rfl) (by kernel_rfl) (by kernel_rfl) (fun _ _ _ h => h) (wanted_of rfl rfl (by (repeat (first | (refine slot_hit (N := 28) ?_ (by rfl); (repeat (refine sz_put ?_)); assumption; done) | (apply slot_miss; focus rfl))); all_goals assumption) rfl) hS0 ?_); (refine wt_skipD 21 rfl rfl (by kernel_rfl) (by kernel_rfl) (by kernel_rfl) (by kernel_rfl) (fun _ _ _ h => h) (wanted_of rfl rfl (by (repeat (first | (refine slot_hit (N := 28) ?_ (by rfl); (repeat (refine sz_put ?_)); assumption; done) | (apply slot_miss; focus rfl))); all_goals assumption) rfl) hS0 ?_); (refine wt_skipD 22 rfl rfl (by kernel_rfl) (by kernel_rfl) (by kernel_rfl) (by kernel_rfl) (fun _ _ _ h => h) (wanted_of rfl rfl (by (repeat (first | (refine slot_hit (N := 28) ?_ (by rfl); (repeat (refine sz_put ?_)); assumption; done) | (apply slot_miss; focus rfl))); all_goals assumption) rfl) hS0 ?_); (refine wt_take2 23 19 26 (v := ?_) rfl rfl (by kernel_rfl) (by kernel_rfl) (by kernel_rfl) (by kernel_rfl) (fun _ _ _ h => h) rfl hS0 (by (repeat (first | (refine slot_hit (N := 28) ?_ (by rfl); (repeat (refine sz_put ?_)); assumption; done) | (apply slot_miss; focus rfl))); all_goals assumption) (by (repeat (first | (refine slot_hit (N := 28) ?_ (by rfl); (repeat (refine sz_put ?_)); assumption; done) | (apply slot_miss; focus rfl))); all_goals assumption) (fun ev hk hv0 hv1 w hS => ?_) ?_; rotate_left; focus (obtain ⟨j0, j1, j2, j3, j4, j5, j6⟩ := hS; go_simp; rfl)); (refine wt_assign 24 27 rfl rfl (by kernel_rfl) (by kernel_rfl) (by kernel_rfl) (by kernel_rfl) (fun _ _ _ h => h) rfl hS0 (by (repeat (first | (refine slot_hit (N := 28) ?_ (by rfl); (repeat (refine sz_put ?_)); assumption; done) | (apply slot_miss; focus rfl))); all_goals assumption) rfl ?_)
    refine wt_done (by kernel_rfl) (NoPanic.normal ?_) _
    have ha := HA.out
    subst ha
    go_wp2
    go_ret
    exact ⟨rfl, below_dn hBd 1⟩
  · cases a1
    · go_enter Tryz.func95, Tryz.ntmps95
      go_wp2
      refine wp_slots (fun f => Sz f 28 ∧ Slot f 1 (.pointer (some ⟨b, 0, none⟩)) ∧ Slot f 2 (.pointer (some ⟨w.heap.size, 0, none⟩))) ⟨⟨rfl, rfl⟩, ⟨rfl⟩, ⟨rfl⟩⟩ fun a0 hA0 hR => ?_
      obtain ⟨hZ, hs1, hs2⟩ := hR
      have HA := Lib.hid hA0
      clear hA0
      refine wp_region_T (fun w' : World => w'.cell? ⟨b, 0, none⟩ = some (.slice (some ⟨g, 0, none⟩) N N) ∧ w'.cell? ⟨w.heap.size, 0, none⟩ = some (.int .i64 x) ∧ w'.cell? ⟨w.heap.size, 1, none⟩ = some (.int .i64 y) ∧ w'.cell? ⟨w.heap.size, 2, none⟩ = some (.int .i64 z) ∧ w'.cell? ⟨g, (x / 2).toNat, none⟩ = some (.bool true) ∧ w'.cell? ⟨g, (y / 2).toNat, none⟩ = some (.bool false) ∧ w'.cell? ⟨g, (z / 2).toNat, none⟩ = some (.bool a2)) 25 (by kernel_rfl) ?_
      refine WT.h ?_
      (refine wt_take1 0 1 (v := ?_) rfl rfl (by kernel_rfl) (by kernel_rfl) (by kernel_rfl) (by kernel_rfl) (fun _ _ _ h => h) rfl hS0 (by (repeat (first | (refine slot_hit (N := 28) ?_ (by rfl); (repeat (refine sz_put ?_)); assumption; done) | (apply slot_miss; focus rfl))); all_goals assumption) (fun ev hk hv0 w hS => ?_) ?_; rotate_left; focus (obtain ⟨j0, j1, j2, j3, j4, j5, j6⟩ := hS; go_simp; rfl)); (refine wt_take1 1 2 (v := ?_) rfl rfl (by kernel_rfl) (by kernel_rfl) (by kernel_rfl) (by kernel_rfl) (fun _ _ _ h => h) rfl hS0 (by (repeat (first | (refine slot_hit (N := 28) ?_ (by rfl); (repeat (refine sz_put ?_)); assumption; done) | (apply slot_miss; focus rfl))); all_goals assumption) (fun ev hk hv0 w hS => ?_) ?_; rotate_left; focus (obtain ⟨j0, j1, j2, j3, j4, j5, j6⟩ := hS; go_simp; rfl)); (refine wt_take1 2 5 (v := ?_) rfl rfl (by kernel_rfl) (by kernel_rfl) (by kernel_rfl) (by kernel_rfl) (fun _ _ _ h => h) rfl hS0 (by (repeat (first | (refine slot_hit (N := 28) ?_ (by rfl); (repeat (refine sz_put ?_)); assumption; done) | (apply slot_miss; focus rfl))); all_goals assumption) (fun ev hk hv0 w hS => ?_) ?_; rotate_left; focus (obtain ⟨j0, j1, j2, j3, j4, j5, j6⟩ := hS; go_simp; rfl))
      refine wt_call1 3 6 (by kernel_rfl) rfl rfl rfl (by (repeat (first | (refine slot_hit (N := 28) ?_ (by rfl); (repeat (refine sz_put ?_)); assumption; done) | (apply slot_miss; focus rfl))); all_goals assumption) (f := ?_) (args := ?_) (fun ev hk hkf hv0 => ?_) ?_; rotate_left 2; focus (go_simp; first | rfl | (constructor <;> rfl))
      (with_reducible refine (D0.out _).mono ?_)
      rintro e w1 ⟨rfl, rfl⟩
      refine ⟨_, rfl, fun _ => hS0, ?_⟩
      (refine wt_take2 4 4 7 (v := ?_) rfl rfl (by kernel_rfl) (by kernel_rfl) (by kernel_rfl) (by kernel_rfl) (fun _ _ _ h => h) rfl hS0 (by (repeat (first | (refine slot_hit (N := 28) ?_ (by rfl); (repeat (refine sz_put ?_)); assumption; done) | (apply slot_miss; focus rfl))); all_goals assumption) (by (repeat (first | (refine slot_hit (N := 28) ?_ (by rfl); (repeat (refine sz_put ?_)); assumption; done) | (apply slot_miss; focus rfl))); all_goals assumption) (fun ev hk hv0 hv1 w hS => ?_) ?_; rotate_left; focus (obtain ⟨j0, j1, j2, j3, j4, j5, j6⟩ := hS; go_simp; rfl)); (refine wt_take1 5 8 (v := ?_) rfl rfl (by kernel_rfl) (by kernel_rfl) (by kernel_rfl) (by kernel_rfl) (fun _ _ _ h => h) rfl hS0 (by (repeat (first | (refine slot_hit (N := 28) ?_ (by rfl); (repeat (refine sz_put ?_)); assumption; done) | (apply slot_miss; focus rfl))); all_goals assumption) (fun ev hk hv0 w hS => ?_) ?_; rotate_left; focus (obtain ⟨j0, j1, j2, j3, j4, j5, j6⟩ := hS; go_simp; rfl)); (refine wt_move 6 9 rfl rfl (by kernel_rfl) (by kernel_rfl) (by kernel_rfl) (by kernel_rfl) (fun _ _ _ h => h) rfl hS0 (by (repeat (first | (refine slot_hit (N := 28) ?_ (by rfl); (repeat (refine sz_put ?_)); assumption; done) | (apply slot_miss; focus rfl))); all_goals assumption) rfl ?_); (refine wt_take1 7 1 (v := ?_) rfl rfl (by kernel_rfl) (by kernel_rfl) (by kernel_rfl) (by kernel_rfl) (fun _ _ _ h => h) (wanted_of rfl rfl (by (repeat (first | (refine slot_hit (N := 28) ?_ (by rfl); (repeat (refine sz_put ?_)); assumption; done) | (apply slot_miss; focus rfl))); all_goals assumption) rfl) hS0 (by (repeat (first | (refine slot_hit (N := 28) ?_ (by rfl); (repeat (refine sz_put ?_)); assumption; done) | (apply slot_miss; focus rfl))); all_goals assumption) (fun ev hk hv0 w hS => ?_) ?_; rotate_left; focus (obtain ⟨j0, j1, j2, j3, j4, j5, j6⟩ := hS; go_simp; rfl)); (refine wt_take1 8 2 (v := ?_) rfl rfl (by kernel_rfl) (by kernel_rfl) (by kernel_rfl) (by kernel_rfl) (fun _ _ _ h => h) (wanted_of rfl rfl (by (repeat (first | (refine slot_hit (N := 28) ?_ (by rfl); (repeat (refine sz_put ?_)); assumption; done) | (apply slot_miss; focus rfl))); all_goals assumption) rfl) hS0 (by (repeat (first | (refine slot_hit (N := 28) ?_ (by rfl); (repeat (refine sz_put ?_)); assumption; done) | (apply slot_miss; focus rfl))); all_goals assumption) (fun ev hk hv0 w hS => ?_) ?_; rotate_left; focus (obtain ⟨j0, j1, j2, j3, j4, j5, j6⟩ := hS; go_simp; rfl)); (refine wt_take1 9 12 (v := ?_) rfl rfl (by kernel_rfl) (by kernel_rfl) (by kernel_rfl) (by kernel_rfl) (fun _ _ _ h => h) (wanted_of rfl rfl (by (repeat (first | (refine slot_hit (N := 28) ?_ (by rfl); (repeat (refine sz_put ?_)); assumption; done) | (apply slot_miss; focus rfl))); all_goals assumption) rfl) hS0 (by (repeat (first | (refine slot_hit (N := 28) ?_ (by rfl); (repeat (refine sz_put ?_)); assumption; done) | (apply slot_miss; focus rfl))); all_goals assumption) (fun ev hk hv0 w hS => ?_) ?_; rotate_left; focus (obtain ⟨j0, j1, j2, j3, j4, j5, j6⟩ := hS; go_simp; rfl))
      refine wt_call1 10 13 (by kernel_rfl) rfl rfl (wanted_of rfl rfl (by (repeat (first | (refine slot_hit (N := 28) ?_ (by rfl); (repeat (refine sz_put ?_)); assumption; done) | (apply slot_miss; focus rfl))); all_goals assumption) rfl) (by (repeat (first | (refine slot_hit (N := 28) ?_ (by rfl); (repeat (refine sz_put ?_)); assumption; done) | (apply slot_miss; focus rfl))); all_goals assumption) (f := ?_) (args := ?_) (fun ev hk hkf hv0 => ?_) ?_; rotate_left 2; focus (go_simp; first | rfl | (constructor <;> rfl))
      (with_reducible refine (D1.out _).mono ?_)
      rintro e w2 ⟨rfl, rfl⟩
      refine ⟨_, rfl, fun _ => hS0, ?_⟩
      (refine wt_take2 11 11 14 (v := ?_) rfl rfl (by kernel_rfl) (by kernel_rfl) (by kernel_rfl) (by kernel_rfl) (fun _ _ _ h => h) (wanted_of rfl rfl (by (repeat (first | (refine slot_hit (N := 28) ?_ (by rfl); (repeat (refine sz_put ?_)); assumption; done) | (apply slot_miss; focus rfl))); all_goals assumption) rfl) hS0 (by (repeat (first | (refine slot_hit (N := 28) ?_ (by rfl); (repeat (refine sz_put ?_)); assumption; done) | (apply slot_miss; focus rfl))); all_goals assumption) (by (repeat (first | (refine slot_hit (N := 28) ?_ (by rfl); (repeat (refine sz_put ?_)); assumption; done) | (apply slot_miss; focus rfl))); all_goals assumption) (fun ev hk hv0 hv1 w hS => ?_) ?_; rotate_left; focus (obtain ⟨j0, j1, j2, j3, j4, j5, j6⟩ := hS; go_simp; rfl)); (refine wt_take1 12 15 (v := ?_) rfl rfl (by kernel_rfl) (by kernel_rfl) (by kernel_rfl) (by kernel_rfl) (fun _ _ _ h => h) (wanted_of rfl rfl (by (repeat (first | (refine slot_hit (N := 28) ?_ (by rfl); (repeat (refine sz_put ?_)); assumption; done) | (apply slot_miss; focus rfl))); all_goals assumption) rfl) hS0 (by (repeat (first | (refine slot_hit (N := 28) ?_ (by rfl); (repeat (refine sz_put ?_)); assumption; done) | (apply slot_miss; focus rfl))); all_goals assumption) (fun ev hk hv0 w hS => ?_) ?_; rotate_left; focus (obtain ⟨j0, j1, j2, j3, j4, j5, j6⟩ := hS; go_simp; rfl)); (refine wt_take1 13 16 (v := ?_) rfl rfl (by kernel_rfl) (by kernel_rfl) (by kernel_rfl) (by kernel_rfl) (fun _ _ _ h => h) (wanted_of rfl rfl (by (repeat (first | (refine slot_hit (N := 28) ?_ (by rfl); (repeat (refine sz_put ?_)); assumption; done) | (apply slot_miss; focus rfl))); all_goals assumption) rfl) hS0 (by (repeat (first | (refine slot_hit (N := 28) ?_ (by rfl); (repeat (refine sz_put ?_)); assumption; done) | (apply slot_miss; focus rfl))); all_goals assumption) (fun ev hk hv0 w hS => ?_) ?_; rotate_left; focus (obtain ⟨j0, j1, j2, j3, j4, j5, j6⟩ := hS; go_simp; rfl)); (refine wt_take2 14 10 17 (v := ?_) rfl rfl (by kernel_rfl) (by kernel_rfl) (by kernel_rfl) (by kernel_rfl) (fun _ _ _ h => h) rfl hS0 (by (repeat (first | (refine slot_hit (N := 28) ?_ (by rfl); (repeat (refine sz_put ?_)); assumption; done) | (apply slot_miss; focus rfl))); all_goals assumption) (by (repeat (first | (refine slot_hit (N := 28) ?_ (by rfl); (repeat (refine sz_put ?_)); assumption; done) | (apply slot_miss; focus rfl))); all_goals assumption) (fun ev hk hv0 hv1 w hS => ?_) ?_; rotate_left; focus (obtain ⟨j0, j1, j2, j3, j4, j5, j6⟩ := hS; go_simp; rfl)); (refine wt_move 15 18 rfl rfl (by kernel_rfl) (by kernel_rfl) (by kernel_rfl) (by kernel_rfl) (fun _ _ _ h => h) rfl hS0 (by (repeat (first | (refine slot_hit (N := 28) ?_ (by rfl); (repeat (refine sz_put ?_)); assumption; done) | (apply slot_miss; focus rfl))); all_goals assumption) rfl ?_); (refine wt_take1 16 1 (v := ?_) rfl rfl (by kernel_rfl) (by kernel_rfl) (by kernel_rfl) (by kernel_rfl) (fun _ _ _ h => h) (wanted_of rfl rfl (by (repeat (first | (refine slot_hit (N := 28) ?_ (by rfl); (repeat (refine sz_put ?_)); assumption; done) | (apply slot_miss; focus rfl))); all_goals assumption) rfl) hS0 (by (repeat (first | (refine slot_hit (N := 28) ?_ (by rfl); (repeat (refine sz_put ?_)); assumption; done) | (apply slot_miss; focus rfl))); all_goals assumption) (fun ev hk hv0 w hS => ?_) ?_; rotate_left; focus (obtain ⟨j0, j1, j2, j3, j4, j5, j6⟩ := hS; go_simp; rfl)); (refine wt_take1 17 2 (v := ?_) rfl rfl (by kernel_rfl) (by kernel_rfl) (by kernel_rfl) (by kernel_rfl) (fun _ _ _ h => h) (wanted_of rfl rfl (by (repeat (first | (refine slot_hit (N := 28) ?_ (by rfl); (repeat (refine sz_put ?_)); assumption; done) | (apply slot_miss; focus rfl))); all_goals assumption) rfl) hS0 (by (repeat (first | (refine slot_hit (N := 28) ?_ (by rfl); (repeat (refine sz_put ?_)); assumption; done) | (apply slot_miss; focus rfl))); all_goals assumption) (fun ev hk hv0 w hS => ?_) ?_; rotate_left; focus (obtain ⟨j0, j1, j2, j3, j4, j5, j6⟩ := hS; go_simp; rfl)); (refine wt_take1 18 21 (v := ?_) rfl rfl (by kernel_rfl) (by kernel_rfl) (by kernel_rfl) (by kernel_rfl) (fun _ _ _ h => h) (wanted_of rfl rfl (by (repeat (first | (refine slot_hit (N := 28) ?_ (by rfl); (repeat (refine sz_put ?_)); assumption; done) | (apply slot_miss; focus rfl))); all_goals assumption) rfl) hS0 (by (repeat (first | (refine slot_hit (N := 28) ?_ (by rfl); (repeat (refine sz_put ?_)); assumption; done) | (apply slot_miss; focus rfl))); all_goals assumption) (fun ev hk hv0 w hS => ?_) ?_; rotate_left; focus (obtain ⟨j0, j1, j2, j3, j4, j5, j6⟩ := hS; go_simp; rfl))
      refine wt_call1 19 22 (by kernel_rfl) rfl rfl (wanted_of rfl rfl (by (repeat (first | (refine slot_hit (N := 28) ?_ (by rfl); (repeat (refine sz_put ?_)); assumption; done) | (apply slot_miss; focus rfl))); all_goals assumption) rfl) (by (repeat (first | (refine slot_hit (N := 28) ?_ (by rfl); (repeat (refine sz_put ?_)); assumption; done) | (apply slot_miss; focus rfl))); all_goals assumption) (f := ?_) (args := ?_) (fun ev hk hkf hv0 => ?_) ?_; rotate_left 2; focus (go_simp; first | rfl | (constructor <;> rfl))
      (with_reducible refine (D2.out _).mono ?_)
      rintro e w3 ⟨rfl, rfl⟩
      refine ⟨_, rfl, fun _ => hS0, ?_⟩
      (refine wt_take2 20 20 23 (v := ?_) rfl rfl (by kernel_rfl) (by kernel_rfl) (by kernel_rfl) (by kernel_rfl) (fun _ _ _ h => h) (wanted_of rfl rfl (by (repeat (first | (refine slot_hit (N := 28) ?_ (by rfl); (repeat (refine sz_put ?_)); assumption; done) | (apply slot_miss; focus rfl))); all_goals assumption) rfl) hS0 (by (repeat (first | (refine slot_hit (N := 28) ?_ (by rfl); (repeat (refine sz_put ?_)); assumption; done) | (apply slot_miss; focus rfl))); all_goals assumption) (by (repeat (first | (refine slot_hit (N := 28) ?_ (by rfl); (repeat (refine sz_put ?_)); assumption; done) | (apply slot_miss; focus rfl))); all_goals assumption) (fun ev hk hv0 hv1 w hS => ?_) ?_; rotate_left; focus (obtain ⟨j0, j1, j2, j3, j4, j5, j6⟩ := hS; go_simp; rfl)); (refine wt_take1 21 24 (v := ?_) rfl rfl (by kernel_rfl) (by kernel_rfl) (by kernel_rfl) (by kernel_rfl) (fun _ _ _ h => h) (wanted_of rfl rfl (by (repeat (first | (refine slot_hit (N := 28) ?_ (by rfl); (repeat (refine sz_put ?_)); assumption; done) | (apply slot_miss; focus rfl))); all_goals assumption) rfl) hS0 (by (repeat (first | (refine slot_hit (N := 28) ?_ (by rfl); (repeat (refine sz_put ?_)); assumption; done) | (apply slot_miss; focus rfl))); all_goals assumption) (fun ev hk hv0 w hS => ?_) ?_; rotate_left; focus (obtain ⟨j0, j1, j2, j3, j4, j5, j6⟩ := hS; go_simp; rfl)); (refine wt_take1 22 25 (v := ?_) rfl rfl (by kernel_rfl) (by kernel_rfl) (by kernel_rfl) (by kernel_rfl) (fun _ _ _ h => h) (wanted_of rfl rfl (by (repeat (first | (refine slot_hit (N := 28) ?_ (by rfl); (repeat (refine sz_put ?_)); assumption; done) | (apply slot_miss; focus rfl))); all_goals assumption) rfl) hS0 (by (repeat (first | (refine slot_hit (N := 28) ?_ (by rfl); (repeat (refine sz_put ?_)); assumption; done) | (apply slot_miss; focus rfl))); all_goals assumption) (fun ev hk hv0 w hS => ?_) ?_; rotate_left; focus (obtain ⟨j0, j1, j2, j3, j4, j5, j6⟩ := hS; go_simp; rfl)); (refine wt_take2 23 19 26 (v := ?_) rfl rfl (by kernel_rfl) (by kernel_rfl) (by kernel_rfl) (by kernel_rfl) (fun _ _ _ h => h) rfl hS0 (by (repeat (first | (refine slot_hit (N := 28) ?_ (by rfl); (repeat (refine sz_put ?_)); assumption; done) | (apply slot_miss; focus rfl))); all_goals assumption) (by (repeat (first | (refine slot_hit (N := 28) ?_ (by rfl); (repeat (refine sz_put ?_)); assumption; done) | (apply slot_miss; focus rfl))); all_goals assumption) (fun ev hk hv0 hv1 w hS => ?_) ?_; rotate_left; focus (obtain ⟨j0, j1, j2, j3, j4, j5, j6⟩ := hS; go_simp; rfl)); (refine wt_assign 24 27 rfl rfl (by kernel_rfl) (by kernel_rfl) (by kernel_rfl) (by kernel_rfl) (fun _ _ _ h => h) rfl hS0 (by (repeat (first | (refine slot_hit (N := 28) ?_ (by rfl); (repeat (refine sz_put ?_)); assumption; done) | (apply slot_miss; focus rfl))); all_goals assumption) rfl ?_)
      refine wt_done (by kernel_rfl) (NoPanic.normal ?_) _
      have ha := HA.out
      subst ha
      go_wp2
      go_ret
      exact ⟨Li.ret_bool (by simp), below_dn hBd 1⟩
    · go_enter Tryz.func95, Tryz.ntmps95
      go_wp2
      refine wp_slots (fun f => Sz f 28 ∧ Slot f 1 (.pointer (some ⟨b, 0, none⟩)) ∧ Slot f 2 (.pointer (some ⟨w.heap.size, 0, none⟩))) ⟨⟨rfl, rfl⟩, ⟨rfl⟩, ⟨rfl⟩⟩ fun a0 hA0 hR => ?_
      obtain ⟨hZ, hs1, hs2⟩ := hR
      have HA := Lib.hid hA0
      clear hA0
      refine wp_region_T (fun w' : World => w'.cell? ⟨b, 0, none⟩ = some (.slice (some ⟨g, 0, none⟩) N N) ∧ w'.cell? ⟨w.heap.size, 0, none⟩ = some (.int .i64 x) ∧ w'.cell? ⟨w.heap.size, 1, none⟩ = some (.int .i64 y) ∧ w'.cell? ⟨w.heap.size, 2, none⟩ = some (.int .i64 z) ∧ w'.cell? ⟨g, (x / 2).toNat, none⟩ = some (.bool true) ∧ w'.cell? ⟨g, (y / 2).toNat, none⟩ = some (.bool true) ∧ w'.cell? ⟨g, (z / 2).toNat, none⟩ = some (.bool a2)) 25 (by kernel_rfl) ?_
      refine WT.h ?_
      (refine wt_take1 0 1 (v := ?_) rfl rfl (by kernel_rfl) (by kernel_rfl) (by kernel_rfl) (by kernel_rfl) (fun _ _ _ h => h) rfl hS0 (by (repeat (first | (refine slot_hit (N := 28) ?_ (by rfl); (repeat (refine sz_put ?_)); assumption; done) | (apply slot_miss; focus rfl))); all_goals assumption) (fun ev hk hv0 w hS => ?_) ?_; rotate_left; focus (obtain ⟨j0, j1, j2, j3, j4, j5, j6⟩ := hS; go_simp; rfl)); (refine wt_take1 1 2 (v := ?_) rfl rfl (by kernel_rfl) (by kernel_rfl) (by kernel_rfl) (by kernel_rfl) (fun _ _ _ h => h) rfl hS0 (by (repeat (first | (refine slot_hit (N := 28) ?_ (by rfl); (repeat (refine sz_put ?_)); assumption; done) | (apply slot_miss; focus rfl))); all_goals assumption) (fun ev hk hv0 w hS => ?_) ?_; rotate_left; focus (obtain ⟨j0, j1, j2, j3, j4, j5, j6⟩ := hS; go_simp; rfl)); (refine wt_take1 2 5 (v := ?_) rfl rfl (by kernel_rfl) (by kernel_rfl) (by kernel_rfl) (by kernel_rfl) (fun _ _ _ h => h) rfl hS0 (by (repeat (first | (refine slot_hit (N := 28) ?_ (by rfl); (repeat (refine sz_put ?_)); assumption; done) | (apply slot_miss; focus rfl))); all_goals assumption) (fun ev hk hv0 w hS => ?_) ?_; rotate_left; focus (obtain ⟨j0, j1, j2, j3, j4, j5, j6⟩ := hS; go_simp; rfl))
      refine wt_call1 3 6 (by kernel_rfl) rfl rfl rfl (by (repeat (first | (refine slot_hit (N := 28) ?_ (by rfl); (repeat (refine sz_put ?_)); assumption; done) | (apply slot_miss; focus rfl))); all_goals assumption) (f := ?_) (args := ?_) (fun ev hk hkf hv0 => ?_) ?_; rotate_left 2; focus (go_simp; first | rfl | (constructor <;> rfl))
      (with_reducible refine (D0.out _).mono ?_)
      rintro e w1 ⟨rfl, rfl⟩
      refine ⟨_, rfl, fun _ => hS0, ?_⟩
      (refine wt_take2 4 4 7 (v := ?_) rfl rfl (by kernel_rfl) (by kernel_rfl) (by kernel_rfl) (by kernel_rfl) (fun _ _ _ h => h) rfl hS0 (by (repeat (first | (refine slot_hit (N := 28) ?_ (by rfl); (repeat (refine sz_put ?_)); assumption; done) | (apply slot_miss; focus rfl))); all_goals assumption) (by (repeat (first | (refine slot_hit (N := 28) ?_ (by rfl); (repeat (refine sz_put ?_)); assumption; done) | (apply slot_miss; focus rfl))); all_goals assumption) (fun ev hk hv0 hv1 w hS => ?_) ?_; rotate_left; focus (obtain ⟨j0, j1, j2, j3, j4, j5, j6⟩ := hS; go_simp; rfl)); (refine wt_take1 5 8 (v := ?_) rfl rfl (by kernel_rfl) (by kernel_rfl) (by kernel_rfl) (by kernel_rfl) (fun _ _ _ h => h) rfl hS0 (by (repeat (first | (refine slot_hit (N := 28) ?_ (by rfl); (repeat (refine sz_put ?_)); assumption; done) | (apply slot_miss; focus rfl))); all_goals assumption) (fun ev hk hv0 w hS => ?_) ?_; rotate_left; focus (obtain ⟨j0, j1, j2, j3, j4, j5, j6⟩ := hS; go_simp; rfl)); (refine wt_move 6 9 rfl rfl (by kernel_rfl) (by kernel_rfl) (by kernel_rfl) (by kernel_rfl) (fun _ _ _ h => h) rfl hS0 (by (repeat (first | (refine slot_hit (N := 28) ?_ (by rfl); (repeat (refine sz_put ?_)); assumption; done) | (apply slot_miss; focus rfl))); all_goals assumption) rfl ?_); (refine wt_take1 7 1 (v := ?_) rfl rfl (by kernel_rfl) (by kernel_rfl) (by kernel_rfl) (by kernel_rfl) (fun _ _ _ h => h) (wanted_of rfl rfl (by (repeat (first | (refine slot_hit (N := 28) ?_ (by rfl); (repeat (refine sz_put ?_)); assumption; done) | (apply slot_miss; focus rfl))); all_goals assumption) rfl) hS0 (by (repeat (first | (refine slot_hit (N := 28) ?_ (by rfl); (repeat (refine sz_put ?_)); assumption; done) | (apply slot_miss; focus rfl))); all_goals assumption) (fun ev hk hv0 w hS => ?_) ?_; rotate_left; focus (obtain ⟨j0, j1, j2, j3, j4, j5, j6⟩ := hS; go_simp; rfl)); (refine wt_take1 8 2 (v := ?_) rfl rfl (by kernel_rfl) (by kernel_rfl) (by kernel_rfl) (by kernel_rfl) (fun _ _ _ h => h) (wanted_of rfl rfl (by (repeat (first | (refine slot_hit (N := 28) ?_ (by rfl); (repeat (refine sz_put ?_)); assumption; done) | (apply slot_miss; focus rfl))); all_goals assumption) rfl) hS0 (by (repeat (first | (refine slot_hit (N := 28) ?_ (by rfl); (repeat (refine sz_put ?_)); assumption; done) | (apply slot_miss; focus rfl))); all_goals assumption) (fun ev hk hv0 w hS => ?_) ?_; rotate_left; focus (obtain ⟨j0, j1, j2, j3, j4, j5, j6⟩ := hS; go_simp; rfl)); (refine wt_take1 9 12 (v := ?_) rfl rfl (by kernel_rfl) (by kernel_rfl) (by kernel_rfl) (by kernel_rfl) (fun _ _ _ h => h) (wanted_of rfl rfl (by (repeat (first | (refine slot_hit (N := 28) ?_ (by rfl); (repeat (refine sz_put ?_)); assumption; done) | (apply slot_miss; focus rfl))); all_goals assumption) rfl) hS0 (by (repeat (first | (refine slot_hit (N := 28) ?_ (by rfl); (repeat (refine sz_put ?_)); assumption; done) | (apply slot_miss; focus rfl))); all_goals assumption) (fun ev hk hv0 w hS => ?_) ?_; rotate_left; focus (obtain ⟨j0, j1, j2, j3, j4, j5, j6⟩ := hS; go_simp; rfl))
      refine wt_call1 10 13 (by kernel_rfl) rfl rfl (wanted_of rfl rfl (by (repeat (first | (refine slot_hit (N := 28) ?_ (by rfl); (repeat (refine sz_put ?_)); assumption; done) | (apply slot_miss; focus rfl))); all_goals assumption) rfl) (by (repeat (first | (refine slot_hit (N := 28) ?_ (by rfl); (repeat (refine sz_put ?_)); assumption; done) | (apply slot_miss; focus rfl))); all_goals assumption) (f := ?_) (args := ?_) (fun ev hk hkf hv0 => ?_) ?_; rotate_left 2; focus (go_simp; first | rfl | (constructor <;> rfl))
      (with_reducible refine (D1.out _).mono ?_)
      rintro e w2 ⟨rfl, rfl⟩
      refine ⟨_, rfl, fun _ => hS0, ?_⟩
      (refine wt_take2 11 11 14 (v := ?_) rfl rfl (by kernel_rfl) (by kernel_rfl) (by kernel_rfl) (by kernel_rfl) (fun _ _ _ h => h) (wanted_of rfl rfl (by (repeat (first | (refine slot_hit (N := 28) ?_ (by rfl); (repeat (refine sz_put ?_)); assumption; done) | (apply slot_miss; focus rfl))); all_goals assumption) rfl) hS0 (by (repeat (first | (refine slot_hit (N := 28) ?_ (by rfl); (repeat (refine sz_put ?_)); assumption; done) | (apply slot_miss; focus rfl))); all_goals assumption) (by (repeat (first | (refine slot_hit (N := 28) ?_ (by rfl); (repeat (refine sz_put ?_)); assumption; done) | (apply slot_miss; focus rfl))); all_goals assumption) (fun ev hk hv0 hv1 w hS => ?_) ?_; rotate_left; focus (obtain ⟨j0, j1, j2, j3, j4, j5, j6⟩ := hS; go_simp; rfl)); (refine wt_take1 12 15 (v := ?_) rfl rfl (by kernel_rfl) (by kernel_rfl) (by kernel_rfl) (by kernel_rfl) (fun _ _ _ h => h) (wanted_of rfl rfl (by (repeat (first | (refine slot_hit (N := 28) ?_ (by rfl); (repeat (refine sz_put ?_)); assumption; done) | (apply slot_miss; focus rfl))); all_goals assumption) rfl) hS0 (by (repeat (first | (refine slot_hit (N := 28) ?_ (by rfl); (repeat (refine sz_put ?_)); assumption; done) | (apply slot_miss; focus rfl))); all_goals assumption) (fun ev hk hv0 w hS => ?_) ?_; rotate_left; focus (obtain ⟨j0, j1, j2, j3, j4, j5, j6⟩ := hS; go_simp; rfl)); (refine wt_take1 13 16 (v := ?_) rfl rfl (by kernel_rfl) (by kernel_rfl) (by kernel_rfl) (by kernel_rfl) (fun _ _ _ h => h) (wanted_of rfl rfl (by (repeat (first | (refine slot_hit (N := 28) ?_ (by rfl); (repeat (refine sz_put ?_)); assumption; done) | (apply slot_miss; focus rfl))); all_goals assumption) rfl) hS0 (by (repeat (first | (refine slot_hit (N := 28) ?_ (by rfl); (repeat (refine sz_put ?_)); assumption; done) | (apply slot_miss; focus rfl))); all_goals assumption) (fun ev hk hv0 w hS => ?_) ?_; rotate_left; focus (obtain ⟨j0, j1, j2, j3, j4, j5, j6⟩ := hS; go_simp; rfl)); (refine wt_take2 14 10 17 (v := ?_) rfl rfl (by kernel_rfl) (by kernel_rfl) (by kernel_rfl) (by kernel_rfl) (fun _ _ _ h => h) rfl hS0 (by (repeat (first | (refine slot_hit (N := 28) ?_ (by rfl); (repeat (refine sz_put ?_)); assumption; done) | (apply slot_miss; focus rfl))); all_goals assumption) (by (repeat (first | (refine slot_hit (N := 28) ?_ (by rfl); (repeat (refine sz_put ?_)); assumption; done) | (apply slot_miss; focus rfl))); all_goals assumption) (fun ev hk hv0 hv1 w hS => ?_) ?_; rotate_left; focus (obtain ⟨j0, j1, j2, j3, j4, j5, j6⟩ := hS; go_simp; rfl)); (refine wt_move 15 18 rfl rfl (by kernel_rfl) (by kernel_rfl) (by kernel_rfl) (by kernel_rfl) (fun _ _ _ h => h) rfl hS0 (by (repeat (first | (refine slot_hit (N := 28) ?_ (by rfl); (repeat (refine sz_put ?_)); assumption; done) | (apply slot_miss; focus rfl))); all_goals assumption) rfl ?_); (refine wt_skipD 16 rfl rfl (by kernel_rfl) (by kernel_rfl) (by kernel_rfl) (by kernel_rfl) (fun _ _ _ h => h) (wanted_of rfl rfl (by (repeat (first | (refine slot_hit (N := 28) ?_ (by rfl); (repeat (refine sz_put ?_)); assumption; done) | (apply slot_miss; focus rfl))); all_goals assumption) rfl) hS0 ?_); (refine wt_skipD 17 rfl rfl (by kernel_rfl) (by kernel_rfl) (by kernel_rfl) (by kernel_rfl) (fun _ _ _ h => h) (wanted_of rfl rfl (by (repeat (first | (refine slot_hit (N := 28) ?_ (by rfl); (repeat (refine sz_put ?_)); assumption; done) | (apply slot_miss; focus rfl))); all_goals assumption) rfl) hS0 ?_); (refine wt_skipD 18 rfl rfl (by kernel_rfl) (by kernel_rfl) (by kernel_rfl) (by kernel_rfl) (fun _ _ _ h => h) (wanted_of rfl rfl (by (repeat (first | (refine slot_hit (N := 28) ?_ (by rfl); (repeat (refine sz_put ?_)); assumption; done) | (apply slot_miss; focus rfl))); all_goals assumption) rfl) hS0 ?_); (refine wt_skipD 19 rfl rfl (by kernel_rfl) (by kernel_rfl) (by kernel_rfl) (by kernel_rfl) (fun _ _ _ h => h) (wanted_of rfl rfl (by (repeat (first | (refine slot_hit (N := 28) ?_ (by rfl); (repeat (refine sz_put ?_)); assumption; done) | (apply slot_miss; focus rfl))); all_goals assumption) rfl) hS0 ?_); (refine wt_skipD 20 rfl rfl (by kernel_rfl) (by kernel_rfl) (by kernel_rfl) (by kernel_rfl) (fun _ _ _ h => h) (wanted_of rfl rfl (by (repeat (first | (refine slot_hit (N := 28) ?_ (by rfl); (repeat (refine sz_put ?_)); assumption; done) | (apply slot_miss; focus rfl))); all_goals assumption) rfl) hS0 ?_); (refine wt_skipD 21 rfl rfl (by kernel_rfl) (by kernel_rfl) (by kernel_rfl) (by kernel_rfl) (fun _ _ _ h => h) (wanted_of rfl rfl (by (repeat (first | (refine slot_hit (N := 28) ?_ (by rfl); (repeat (refine sz_put ?_)); assumption; done) | (apply slot_miss; focus rfl))); all_goals assumption) rfl) hS0 ?_); (refine wt_skipD 22 rfl rfl (by kernel_rfl) (by kernel_rfl) (by kernel_rfl) (by kernel_rfl) (fun _ _ _ h => h) (wanted_of rfl rfl (by (repeat (first | (refine slot_hit (N := 28) ?_ (by rfl); (repeat (refine sz_put ?_)); assumption; done) | (apply slot_miss; focus rfl))); all_goals assumption) rfl) hS0 ?_); (refine wt_take2 23 19 26 (v := ?_) rfl rfl (by kernel_rfl) (by kernel_rfl) (by kernel_rfl) (by kernel_rfl) (fun _ _ _ h => h) rfl hS0 (by (repeat (first | (refine slot_hit (N := 28) ?_ (by rfl); (repeat (refine sz_put ?_)); assumption; done) | (apply slot_miss; focus rfl))); all_goals assumption) (by (repeat (first | (refine slot_hit (N := 28) ?_ (by rfl); (repeat (refine sz_put ?_)); assumption; done) | (apply slot_miss; focus rfl))); all_goals assumption) (fun ev hk hv0 hv1 w hS => ?_) ?_; rotate_left; focus (obtain ⟨j0, j1, j2, j3, j4, j5, j6⟩ := hS; go_simp; rfl)); (refine wt_assign 24 27 rfl rfl (by kernel_rfl) (by kernel_rfl) (by kernel_rfl) (by kernel_rfl) (fun _ _ _ h => h) rfl hS0 (by (repeat (first | (refine slot_hit (N := 28) ?_ (by rfl); (repeat (refine sz_put ?_)); assumption; done) | (apply slot_miss; focus rfl))); all_goals assumption) rfl ?_)
      refine wt_done (by kernel_rfl) (NoPanic.normal ?_) _
      have ha := HA.out
      subst ha
      go_wp2
      go_ret
      exact ⟨rfl, below_dn hBd 1⟩

set_option maxRecDepth 100000 in
set_option maxHeartbeats 2000000 in
theorem idxNext (r : Rw) (B : Int → Bool) (g b N : Nat) (A : Option Addr) (k : Nat) (w : World) (hn : r.na ≤ 100000) (hA : TripsAt w w.heap.size A r.na r.gl r.ga r.gb) (hI : w.rowIs g 4 N (fun v => .bool (!B (v : Int)))) (hb : Has w b 121 #[.slice (some ⟨g, 0, none⟩) N N])
    (hr : ∀ j, j < r.na → (0 ≤ r.gl j ∧ r.gl j ≤ 2001 ∧ r.gl j / 2 < (N : Int)) ∧ (0 ≤ r.ga j ∧ r.ga j ≤ 2001 ∧ r.ga j / 2 < (N : Int)) ∧ (0 ≤ r.gb j ∧ r.gb j ≤ 2001 ∧ r.gb j / 2 < (N : Int))) :
    Calls Tryz.prog 93 #[.slice A r.na k, nextV b] w fun e w' => e = .returned (.int .i64 (fxI (r.fnd B) r.na)) ∧ Below w.heap.size w w' := by
  have hmay : ∀ q, q < r.na → nxB (fun v => !B (v : Int)) (r.gl q) (r.ga q) (r.gb q) = r.may B q := fun q hq => by
    obtain ⟨h1, h2, h3⟩ := hr q hq
    unfold nxB Rw.may
    dsimp only
    rw [Int.toNat_of_nonneg (by omega), Int.toNat_of_nonneg (by omega), Int.toNat_of_nonneg (by omega)]
    simp
  have HM := Lib.hid hmay
  have HRR := Lib.hid hr
  clear hmay hr
  go_enter Tryz.func93, Tryz.ntmps93
  go_wp2
  go_loopw [8] (fun i wr => ∃ q : Nat, q ≤ r.na ∧ i = .int .i64 q ∧ Hid (∀ j, j < q → r.may B j = false) ∧ Below w.heap.size w wr) (fun i _ => r.na - (intOf i).toNat)
  case atStart => exact ⟨0, Nat.zero_le _, rfl, Lib.hid (fun j hj => absurd hj (Nat.not_lt_zero _)), Below.refl _ _⟩
  case round =>
    obtain ⟨q, hq, rfl, hL, hBr⟩ := hrel
    by_cases hlt : q < r.na
    · obtain ⟨a, rfl, hab, hcs⟩ := (hA.keep hBr) (by omega)
      obtain ⟨y0, y1, y2⟩ := hcs q hlt
      clear hcs
      obtain ⟨⟨l0, l1, l2⟩, ⟨l3, l4, l5⟩, l6, l7, l8⟩ := HRR.out q hlt
      have C := nextC_any (fun v => !B (v : Int)) g b N (r.gl q) (r.ga q) (r.gb q) wr (hI.of_block (hBr.block _ hI.lt)) (hb.keep hBr hb.lt) l0 l1 l2 l3 l4 l5 l6 l7 l8
      rw [HM.out q hlt] at C
      clear l0 l1 l2 l3 l4 l5 l6 l7 l8
      cases hv : r.may B q
      · rw [hv] at C
        have HW := Lib.hid hv
        have D := Lib.hid C
        clear C hv
        go_wp2_with (go_at_call 95; (with_reducible refine D.out.mono ?_); rintro e w1 ⟨rfl, hb1⟩)
        go_roundw
        case rel => exact ⟨q + 1, by omega, by go_num, Lib.hid (fun j hj => by
          rcases Nat.lt_succ_iff_lt_or_eq.1 hj with h' | h'
          · exact hL.out j h'
          · subst h'; exact HW.out), Below.step hBr hBr.size hb1⟩
        case measure => simp [intOf]; omega
      · rw [hv] at C
        have HV := Lib.hid (show fxI (r.fnd B) r.na = (q : Int) by rw [Rw.fnd_is hlt hv hL.out]; exact if_pos hlt)
        have D := Lib.hid C
        clear C hv
        go_wp2_with (go_at_call 95; (with_reducible refine D.out.mono ?_); rintro e w1 ⟨rfl, hb1⟩)
        go_ret
        exact ⟨by rw [HV.out]; rfl, Below.step hBr hBr.size hb1⟩
    · obtain rfl : q = r.na := by omega
      have HV := Lib.hid (show fxI (r.fnd B) r.na = -1 by rw [Rw.fnd_no hL.out]; exact if_neg (by omega))
      clear hq hlt
      go_wp2
      go_ret
      exact ⟨by rw [HV.out]; rfl, hBr⟩

end Go.Proofs.YtkpjpokeonppbaaGreatDoor

namespace Go.Proofs.YtkpjpokeonppbaaGreatDoor
open Go.RowKit
set_option linter.unusedVariables false
set_option linter.unusedSimpArgs false

theorem own_call {w w' : World} {base : Nat} {e : TypeId} {size n : Nat} {v : Value} {xs : List Value} (h : w.ownsRow base e size v n xs) (hb : Below w.heap.size w w') : w'.ownsRow base e size v n xs := by
  refine ⟨h.1, ?_⟩
  rcases h.2 with h2 | ⟨g, cap, cur, hv, hg, hh, r⟩
  · exact Or.inl h2
  · exact Or.inr ⟨g, cap, cur, hv, hg, (hb.block g (Has.lt (t := e) (cs := cur) hh)).trans hh, r⟩
theorem own_setv {w : World} {b j base : Nat} {x : Value} {e : TypeId} {size n : Nat} {v : Value} {xs : List Value} (h : w.ownsRow base e size v n xs) (hb : b < base) : (w.setCell ⟨b, j, none⟩ x).ownsRow base e size v n xs := by
  refine ⟨h.1, ?_⟩
  rcases h.2 with h2 | ⟨g, cap, cur, hv, hg, hh, r⟩
  · exact Or.inl h2
  · exact Or.inr ⟨g, cap, cur, hv, hg, (Below.heap_setCell w ⟨b, j, none⟩ x g (by show g ≠ b; omega)).trans hh, r⟩
theorem fxI_yes {m n : Nat} (h : m < n) : fxI m n = (m : Int) := if_pos h
theorem fxI_no {m n : Nat} (h : m = n) : fxI m n = -1 := if_neg (by omega)
theorem nL_st (r : Rw) {k : Nat} (h : r.fnd (r.st k).1 < r.na) : il (nL (r.st (k + 1)).2) = il (nL (r.st k).2) ++ [.int .i64 (r.fnd (r.st k).1)] := by
  rw [Rw.st_go h, nL_app, il_app]; rfl
theorem st_row (r : Rw) {k : Nat} (h : r.fnd (r.st k).1 < r.na) (h0 : 0 ≤ r.gl (r.fnd (r.st k).1)) (v : Nat) : (if v = (r.gl (r.fnd (r.st k).1) / 2).toNat then false else !(r.st k).1 (v : Int)) = !(r.st (k + 1)).1 (v : Int) := by
  rw [Rw.st_go h]
  show _ = !(Rw.upd (r.st k).1 (r.gl (r.fnd (r.st k).1) / 2) true (v : Int))
  unfold Rw.upd
  by_cases e : v = (r.gl (r.fnd (r.st k).1) / 2).toNat
  · rw [if_pos e, if_pos (by omega)]; rfl
  · rw [if_neg e, if_neg (by omega)]

set_option maxRecDepth 100000 in
set_option maxHeartbeats 8000000 in
theorem pTaken_any (r : Rw) (p : Rp) (w : World) (mn : Nat) (hmn : r.m = mn) (hs : RSm r) (hm : RMem w w.heap.size r p) (h1 : r.m ≤ 1000) (hnum : r.num = true) :
    Calls Tryz.prog 69 #[rv r p] w (ListIs (nL r.ord) w) := by
  have g2 := hs.na
  have hmn1 : mn ≤ 1000 := by omega
  have h0 : 0 ≤ r.m := by omega
  have hw1 : IntKind.i64.wrap (r.m + 1) = r.m + 1 := IntWalk.i64_in _ (by omega)
  obtain ⟨i0, hi0, hzz0, hs0, hy0⟩ := info_parts info_int
  have hmk : ∀ w : World, (Instr.makeSlice 121 (.int .i64 (r.m + 1)) (.int .i64 (r.m + 1))).run Tryz.prog w = .ok (.slice (some ⟨w.heap.size, 0, none⟩) (mn + 1) (mn + 1)) (w.alloc (.cells (madeCells #[.bool false] (mn + 1)) 4)) := fun w => by
    have := run_make_row' 121 4 (.bool false) 1 Tryz.underlying121 info_bool8 rfl .i64 .i64 (mn + 1) (by omega) (by omega) w
    rw [hmn]; exact this
  have hg := Lib.hid (fun j (hj : j < r.na) => Rw.num_g hnum hj)
  have HM := Lib.hid hmn
  have hbd := Lib.hid (fun j (hj : j < r.na) => (show (0 ≤ r.gl j ∧ r.gl j ≤ 2001 ∧ r.gl j / 2 < ((mn + 1 : Nat) : Int)) ∧ (0 ≤ r.ga j ∧ r.ga j ≤ 2001 ∧ r.ga j / 2 < ((mn + 1 : Nat) : Int)) ∧ (0 ≤ r.gb j ∧ r.gb j ≤ 2001 ∧ r.gb j / 2 < ((mn + 1 : Nat) : Int)) by
    obtain ⟨⟨e1, e2⟩, ⟨e3, e4⟩, e5, e6⟩ := hg.out j hj
    omega))
  have hHx : Has (((w.alloc (.cells (rcL r p) 26)).alloc (.cells (madeCells #[.bool false] (mn + 1)) 4)).alloc (.cells #[.slice (some ⟨w.heap.size + 1, 0, none⟩) (mn + 1) (mn + 1)] 121)) w.heap.size 26 (rc r p) := ((Has.new _ _ _).al _).al _
  have hDx : Has (((w.alloc (.cells (rcL r p) 26)).alloc (.cells (madeCells #[.bool false] (mn + 1)) 4)).alloc (.cells #[.slice (some ⟨w.heap.size + 1, 0, none⟩) (mn + 1) (mn + 1)] 121)) (w.heap.size + 1 + 1) 121 #[.slice (some ⟨w.heap.size + 1, 0, none⟩) (mn + 1) (mn + 1)] := Has.new' _ _ (by simp)
  have hRx : (((w.alloc (.cells (rcL r p) 26)).alloc (.cells (madeCells #[.bool false] (mn + 1)) 4)).alloc (.cells #[.slice (some ⟨w.heap.size + 1, 0, none⟩) (mn + 1) (mn + 1)] 121)).rowIs (w.heap.size + 1) 4 (mn + 1) (fun v => .bool (!r.rdk 0 v)) := by
    have := World.rowIs_made (w.alloc (.cells (rcL r p) 26)) (.bool false) (mn + 1) 4
    rw [World.size_alloc] at this
    exact (this.alloc _).congr fun j hj => by rw [Rw.rdk_0]; rfl
  have hBx : Below w.heap.size w (((w.alloc (.cells (rcL r p) 26)).alloc (.cells (madeCells #[.bool false] (mn + 1)) 4)).alloc (.cells #[.slice (some ⟨w.heap.size + 1, 0, none⟩) (mn + 1) (mn + 1)] 121)) := (((Below.refl _ _).alloc (Nat.le_refl _) _).alloc (by simp) _).alloc (by simp; omega) _
  clear hmn hnum
  go_enter Tryz.func69, Tryz.ntmps69
  go_wp2
  go_loopw [16] (fun i wr => ∃ q : Nat, q ≤ r.na ∧ i = .int .i64 q ∧ Has wr w.heap.size 26 (rc r p) ∧ Has wr (w.heap.size + 1 + 1) 121 #[.slice (some ⟨w.heap.size + 1, 0, none⟩) (mn + 1) (mn + 1)] ∧ wr.rowIs (w.heap.size + 1) 4 (mn + 1) (fun v => .bool (!r.rdk q v)) ∧ Below w.heap.size w wr) (fun i _ => r.na - (intOf i).toNat)
  case atStart => exact ⟨0, Nat.zero_le _, rfl, hHx, hDx, hRx, hBx⟩
  case round =>
    clear hHx hDx hRx hBx
    obtain ⟨q, hq, rfl, hH, hD, hR, hBr⟩ := hrel
    have hHl := hH.lt
    have hDl := hD.lt
    have hRl := hR.lt
    by_cases hlt : q < r.na
    · obtain ⟨a, hA, hab, hcs⟩ := (hm.an.keep hBr) (by omega)
      obtain ⟨y0, y1, y2⟩ := hcs q hlt
      obtain ⟨⟨c0, c1, c3⟩, _, _⟩ := hbd.out q hlt
      have c2 : (r.gl q / 2).toNat < mn + 1 := by omega
      have c4 : 0 ≤ r.gl q / 2 := by omega
      have c5 : r.gl q / 2 < (mn : Int) + 1 := by omega
      have hq0 : (0 : Int) ≤ (q : Int) := by omega
      have hq1 : (q : Int) < (r.na : Int) := by omega
      have hst := Lib.hid (fun v => r.rdk_succ q v c0)
      rw [hA]
      have hHd : Has (wr.alloc (.cells #[.int .i64 (r.gl q), .int .i64 (r.ga q), .int .i64 (r.gb q)] 32)).drew w.heap.size 26 (rc r p) := hH.al _
      have hDd : Has (wr.alloc (.cells #[.int .i64 (r.gl q), .int .i64 (r.ga q), .int .i64 (r.gb q)] 32)).drew (w.heap.size + 1 + 1) 121 #[.slice (some ⟨w.heap.size + 1, 0, none⟩) (mn + 1) (mn + 1)] := hD.al _
      have hRd : (wr.alloc (.cells #[.int .i64 (r.gl q), .int .i64 (r.ga q), .int .i64 (r.gb q)] 32)).drew.rowIs (w.heap.size + 1) 4 (mn + 1) (fun v => .bool (!r.rdk q v)) := hR.alloc _
      have hBd : Below w.heap.size w (wr.alloc (.cells #[.int .i64 (r.gl q), .int .i64 (r.ga q), .int .i64 (r.gb q)] 32)).drew := below_dn (hBr.alloc hBr.size _) 1
      have e0 : (wr.alloc (.cells #[.int .i64 (r.gl q), .int .i64 (r.ga q), .int .i64 (r.gb q)] 32)).drew.cell? ⟨wr.heap.size, 0, none⟩ = some (.int .i64 (r.gl q)) := (Has.new wr 32 #[.int .i64 (r.gl q), .int .i64 (r.ga q), .int .i64 (r.gb q)]).cell 0
      have z1 := hRd.cell c2
      have z2 := hRd.frozen (r.gl q / 2).toNat
      have hS0 : (fun w' : World => w'.cell? ⟨w.heap.size + 1 + 1, 0, none⟩ = some (.slice (some ⟨w.heap.size + 1, 0, none⟩) (mn + 1) (mn + 1)) ∧ w'.cell? ⟨wr.heap.size, 0, none⟩ = some (.int .i64 (r.gl q))) (wr.alloc (.cells #[.int .i64 (r.gl q), .int .i64 (r.ga q), .int .i64 (r.gb q)] 32)).drew := ⟨hDd.cell 0, e0⟩
      have HS0 := Lib.hid hS0
      have HH := Lib.hid hH
      have HD := Lib.hid hD
      have HR := Lib.hid hR
      clear hcs hS0 hHd hDd hRd e0 hR hH hD
      go_wp2
      refine wp_slots (fun f => Sz f 53 ∧ Slot f 3 (.pointer (some ⟨w.heap.size + 1 + 1, 0, none⟩)) ∧ Slot f 5 (.pointer (some ⟨wr.heap.size, 0, none⟩))) ⟨⟨rfl, rfl⟩, ⟨rfl⟩, ⟨rfl⟩⟩ fun a0 hA0 hR => ?_
      obtain ⟨hZ, hs3, hs5⟩ := hR
      have HA := Lib.hid hA0
      clear hA0
      have hS0 := HS0.out
      refine wp_region_T (fun w' : World => w'.cell? ⟨w.heap.size + 1 + 1, 0, none⟩ = some (.slice (some ⟨w.heap.size + 1, 0, none⟩) (mn + 1) (mn + 1)) ∧ w'.cell? ⟨wr.heap.size, 0, none⟩ = some (.int .i64 (r.gl q))) 6 (by kernel_rfl) ?_
      refine WT.h ?_
      (refine wt_take1 0 3 (v := ?_) rfl rfl (by kernel_rfl) (by kernel_rfl) (by kernel_rfl) (by kernel_rfl) (fun _ _ _ h => h) rfl hS0 (by (repeat (first | (refine slot_hit (N := 53) ?_ (by rfl); (repeat (refine sz_put ?_)); assumption; done) | (apply slot_miss; focus rfl))); all_goals assumption) (fun ev hk hv0 w hS => ?_) ?_; rotate_left; focus (obtain ⟨j0, j1⟩ := hS; go_simp; rfl)); (refine wt_take1 1 5 (v := ?_) rfl rfl (by kernel_rfl) (by kernel_rfl) (by kernel_rfl) (by kernel_rfl) (fun _ _ _ h => h) rfl hS0 (by (repeat (first | (refine slot_hit (N := 53) ?_ (by rfl); (repeat (refine sz_put ?_)); assumption; done) | (apply slot_miss; focus rfl))); all_goals assumption) (fun ev hk hv0 w hS => ?_) ?_; rotate_left; focus (obtain ⟨j0, j1⟩ := hS; go_simp; rfl)); (refine wt_take1 2 21 (v := ?_) rfl rfl (by kernel_rfl) (by kernel_rfl) (by kernel_rfl) (by kernel_rfl) (fun _ _ _ h => h) rfl hS0 (by (repeat (first | (refine slot_hit (N := 53) ?_ (by rfl); (repeat (refine sz_put ?_)); assumption; done) | (apply slot_miss; focus rfl))); all_goals assumption) (fun ev hk hv0 w hS => ?_) ?_; rotate_left; focus (obtain ⟨j0, j1⟩ := hS; go_simp; rfl))
      refine wt_call1 3 22 (by kernel_rfl) rfl rfl rfl (by (repeat (first | (refine slot_hit (N := 53) ?_ (by rfl); (repeat (refine sz_put ?_)); assumption; done) | (apply slot_miss; focus rfl))); all_goals assumption) (f := ?_) (args := ?_) (fun ev hk hkf hv0 => ?_) ?_; rotate_left 2; focus (go_simp; first | rfl | (constructor <;> rfl))
      (with_reducible refine (varOf_any c0 c1 _).mono ?_)
      rintro e w2 ⟨rfl, rfl⟩
      refine ⟨_, rfl, fun _ => hS0, ?_⟩
      (refine wt_take2 4 20 23 (v := ?_) rfl rfl (by kernel_rfl) (by kernel_rfl) (by kernel_rfl) (by kernel_rfl) (fun _ _ _ h => h) rfl hS0 (by (repeat (first | (refine slot_hit (N := 53) ?_ (by rfl); (repeat (refine sz_put ?_)); assumption; done) | (apply slot_miss; focus rfl))); all_goals assumption) (by (repeat (first | (refine slot_hit (N := 53) ?_ (by rfl); (repeat (refine sz_put ?_)); assumption; done) | (apply slot_miss; focus rfl))); all_goals assumption) (fun ev hk hv0 hv1 w hS => ?_) ?_; rotate_left; focus (obtain ⟨j0, j1⟩ := hS; go_simp; rfl))
      refine wt_act1 5 24 (by kernel_rfl) rfl rfl rfl (by (repeat (first | (refine slot_hit (N := 53) ?_ (by rfl); (repeat (refine sz_put ?_)); assumption; done) | (apply slot_miss; focus rfl))); all_goals assumption) (w' := ?_) (fun ev hk hv0 => ?_) ?_; rotate_left; focus (go_simp; rfl)
      have hD2 := (HD.out.far (q := ⟨w.heap.size + 1, (r.gl q / 2).toNat, none⟩) (by simp) (.bool true)).al (.cells #[.int .i64 (r.gl q), .int .i64 (r.ga q), .int .i64 (r.gb q)] 32)
      have hH2 := (HH.out.far (q := ⟨w.heap.size + 1, (r.gl q / 2).toNat, none⟩) (by simp) (.bool true)).al (.cells #[.int .i64 (r.gl q), .int .i64 (r.ga q), .int .i64 (r.gb q)] 32)
      have hR2 := (HR.out.set (r.gl q / 2).toNat (.bool true)).alloc (.cells #[.int .i64 (r.gl q), .int .i64 (r.ga q), .int .i64 (r.gb q)] 32)
      have hE2 : Has ((wr.setCell ⟨w.heap.size + 1, (r.gl q / 2).toNat, none⟩ (.bool true)).alloc (.cells #[.int .i64 (r.gl q), .int .i64 (r.ga q), .int .i64 (r.gb q)] 32)) wr.heap.size 32 #[.int .i64 (r.gl q), .int .i64 (r.ga q), .int .i64 (r.gb q)] := Has.new' _ _ (by simp [World.setCell])
      have hB2 : Below w.heap.size w ((wr.setCell ⟨w.heap.size + 1, (r.gl q / 2).toNat, none⟩ (.bool true)).alloc (.cells #[.int .i64 (r.gl q), .int .i64 (r.ga q), .int .i64 (r.gb q)] 32)) := (hBr.setCell (by simp) _).alloc (by simpa [World.setCell] using hBr.size) _
      refine ⟨fun _ => ⟨hD2.cell 0, hE2.cell 0⟩, ?_⟩
      refine wt_done (by kernel_rfl) (NoPanic.normal ?_) _
      have ha := HA.out
      subst ha
      clear hS0 hE2
      go_wp2
      go_roundw
      case rel => exact ⟨q + 1, by omega, by go_num, hH2, hD2, hR2.congr (fun j hj => by rw [← hst.out j]; split <;> rfl), below_dn hB2 1⟩
      case measure => simp [intOf]; omega
    · obtain ⟨m0, hme⟩ : ∃ m0, m0 = q := ⟨_, rfl⟩
      subst hme
      have c2 : ¬ (m0 : Int) < (r.na : Int) := by omega
      have hR3 : wr.rowIs (w.heap.size + 1) 4 (mn + 1) (fun v => .bool (!(r.st 0).1 (v : Int))) := hR.congr (fun j hj => by rw [show m0 = r.na from by omega]; rfl)
      have x3 : wr.cell? ⟨w.heap.size, 3, none⟩ = some (.slice p.A3 r.na p.k3) := hH.cell 3
      clear hq hlt hR
      obtain ⟨W0, hW0⟩ : ∃ W0, W0 = wr := ⟨_, rfl⟩
      subst hW0
      have hw0 := hBr.size
      go_wp2
      go_loopw [7, 30] (fun v i wr => ∃ k : Nat, k ≤ r.na ∧ i = .int .i64 k ∧ Hid ((r.st k).2.length = k) ∧ wr.ownsRow W0.heap.size 3 1 v k (il (nL (r.st k).2)) ∧ Has wr w.heap.size 26 (rc r p) ∧ Has wr (w.heap.size + 1 + 1) 121 #[.slice (some ⟨w.heap.size + 1, 0, none⟩) (mn + 1) (mn + 1)] ∧ wr.rowIs (w.heap.size + 1) 4 (mn + 1) (fun v => .bool (!(r.st k).1 (v : Int))) ∧ Below w.heap.size w wr ∧ W0.heap.size ≤ wr.heap.size) (fun _ i _ => r.na - (intOf i).toNat)
      case atStart => exact ⟨0, Nat.zero_le _, rfl, Lib.hid rfl, World.ownsRow_nil _ _ _ _, hH, hD, hR3, hBr, Nat.le_refl _⟩
      case round =>
        clear hH hD hR3 hBr x3
        obtain ⟨k, hk, rfl, hlen, hown, hH, hD, hR, hBr, hsz⟩ := hrel
        have x3 : wr.cell? ⟨w.heap.size, 3, none⟩ = some (.slice p.A3 r.na p.k3) := hH.cell 3
        have c1 : 0 < w.heap.size + 1 + 1 := by omega
        by_cases hlt : k < r.na
        · have I := Lib.hid (idxNext r (r.st k).1 (w.heap.size + 1) (w.heap.size + 1 + 1) (mn + 1) p.A3 p.k3 wr (by omega) ((hm.to hBr hBr.size).an) hR hD hbd.out)
          by_cases hf : r.fnd (r.st k).1 < r.na
          · have HF := Lib.hid (fxI_yes hf)
            have HX := Lib.hid (nL_st r hf)
            have HL := Lib.hid (show (r.st (k + 1)).2.length = k + 1 by rw [Rw.st_go hf, List.length_append, hlen.out]; rfl)
            obtain ⟨⟨e0, e1, e3⟩, _, _⟩ := hbd.out _ hf
            have HRW := Lib.hid (fun v => st_row r hf e0 v)
            obtain ⟨f, hfe⟩ : ∃ f, r.fnd (r.st k).1 = f := ⟨_, rfl⟩
            rw [hfe] at HF HX HRW hf e0 e1 e3
            obtain ⟨a, hA, hab, hcs⟩ := ((hm.to hBr hBr.size).an) (by omega)
            have hf0 : (0 : Int) ≤ (f : Int) := by omega
            have hf1 : (f : Int) < (r.na : Int) := by omega
            have hk1 : (k : Int) < (r.na : Int) := by omega
            have HFE := Lib.hid hfe
            have HCS := Lib.hid hcs
            rw [hA] at x3 I
            have HAA := Lib.hid hA
            clear hfe hcs hA
            go_wp2_with (first
              | (go_at_call 93; (with_reducible refine I.out.mono ?_); rw [HFE.out, HF.out]; rintro e w1 ⟨rfl, hb1⟩; have hH1 := hH.keep hb1 hH.lt; have hD1 := hD.keep hb1 hD.lt; have hR1 := hR.of_block (hb1.block _ hR.lt); have hB1 := Below.step hBr hBr.size hb1; have hO1 := own_call hown hb1; have hz1 := hb1.size)
              | (at_builtin; refine wpList_append_own _ rfl _ _ 23 rfl W0.heap.size 3 i0 (.int .i64 0) 1 8 Tryz.underlying23 hi0 hzz0 hs0 hy0 rfl (by decide) _ _ _ rfl (hO1.alloc _) ⟨w1.heap.size, 0, none⟩ 1 1 [.int .i64 (f : Int)] rfl (by simp) (cell_one_new w1 (.int .i64 (f : Int)) 3) (by simp [Value.oneCell']) (by simp only [maxLen]; omega) (by omega) (by simp; omega) ?_; intro v' w8 hown' hgrow _))
            have hH8 : Has w8 w.heap.size 26 (rc r p) := app_has hH1 hO1 hgrow (by omega)
            have hD8 := app_has hD1 hO1 hgrow (by omega)
            have hR8 := (hR1.alloc (.cells #[.int .i64 (f : Int)] 3)).of_block (hgrow.block (w.heap.size + 1) (by have := hR1.lt; simp; omega) (fun e => by have := own_block hO1 _ e.symm; omega))
            have hB8 := app_below hB1 hB1.size (by omega) hO1 hgrow
            have hs8 := hB8.size
            have hz8 : W0.heap.size ≤ w8.heap.size := by have := hgrow.size; simp at this; omega
            have y3 : w8.cell? ⟨w.heap.size, 3, none⟩ = some (.slice p.A3 r.na p.k3) := hH8.cell 3
            rw [HAA.out] at y3
            obtain ⟨a', ea, ha', hcs'⟩ := ((hm.to hB8 hB8.size).an) (by omega)
            obtain rfl : a' = a := Option.some.inj (ea.symm.trans HAA.out)
            obtain ⟨u0, _, _⟩ := hcs' f hf
            have hS0 : (fun w' : World => w'.cell? ⟨w.heap.size + 1 + 1, 0, none⟩ = some (.slice (some ⟨w.heap.size + 1, 0, none⟩) (mn + 1) (mn + 1)) ∧ w'.cell? ⟨w.heap.size, 3, none⟩ = some (.slice (some a') r.na p.k3) ∧ w'.cell? (a'.add (f * 3)) = some (.int .i64 (r.gl f))) w8.drew := ⟨hD8.cell 0, y3, u0⟩
            have HS0 := Lib.hid hS0
            have c2 : (r.gl f / 2).toNat < mn + 1 := by omega
            have c4 : 0 ≤ r.gl f / 2 := by omega
            have c5 : r.gl f / 2 < (mn : Int) + 1 := by omega
            have z1 := hR8.cell c2
            have z2 := hR8.frozen (r.gl f / 2).toNat
            have HR8 := Lib.hid hR8
            have HO8 := Lib.hid hown'
            clear hS0 ea hcs' u0 y3 hown' hR8
            refine wp_slots (fun fr => Sz fr 53 ∧ Slot fr 1 (.pointer (some ⟨w.heap.size, 0, none⟩)) ∧ Slot fr 3 (.pointer (some ⟨w.heap.size + 1 + 1, 0, none⟩)) ∧ Slot fr 8 (.int .i64 (f : Int))) ⟨⟨rfl, rfl⟩, ⟨rfl⟩, ⟨rfl⟩, ⟨rfl⟩⟩ fun a0 hA0 hRR => ?_
            obtain ⟨hZ, hs1, hs3, hs8'⟩ := hRR
            have HA := Lib.hid hA0
            clear hA0
            have hS0 := HS0.out
            refine wp_region_T (fun w' : World => w'.cell? ⟨w.heap.size + 1 + 1, 0, none⟩ = some (.slice (some ⟨w.heap.size + 1, 0, none⟩) (mn + 1) (mn + 1)) ∧ w'.cell? ⟨w.heap.size, 3, none⟩ = some (.slice (some a') r.na p.k3) ∧ w'.cell? (a'.add (f * 3)) = some (.int .i64 (r.gl f))) 10 (by kernel_rfl) ?_
            refine WT.h ?_
            (refine wt_take1 0 3 (v := ?_) rfl rfl (by kernel_rfl) (by kernel_rfl) (by kernel_rfl) (by kernel_rfl) (fun _ _ _ h => h) rfl hS0 (by (repeat (first | (refine slot_hit (N := 53) ?_ (by rfl); (repeat (refine sz_put ?_)); assumption; done) | (apply slot_miss; focus rfl))); all_goals assumption) (fun ev hk hv0 w hS => ?_) ?_; rotate_left; focus (obtain ⟨j0, j1, j2⟩ := hS; go_simp; rfl)); (refine wt_take1 1 1 (v := ?_) rfl rfl (by kernel_rfl) (by kernel_rfl) (by kernel_rfl) (by kernel_rfl) (fun _ _ _ h => h) rfl hS0 (by (repeat (first | (refine slot_hit (N := 53) ?_ (by rfl); (repeat (refine sz_put ?_)); assumption; done) | (apply slot_miss; focus rfl))); all_goals assumption) (fun ev hk hv0 w hS => ?_) ?_; rotate_left; focus (obtain ⟨j0, j1, j2⟩ := hS; go_simp; rfl)); (refine wt_take1 2 43 (v := ?_) rfl rfl (by kernel_rfl) (by kernel_rfl) (by kernel_rfl) (by kernel_rfl) (fun _ _ _ h => h) rfl hS0 (by (repeat (first | (refine slot_hit (N := 53) ?_ (by rfl); (repeat (refine sz_put ?_)); assumption; done) | (apply slot_miss; focus rfl))); all_goals assumption) (fun ev hk hv0 w hS => ?_) ?_; rotate_left; focus (obtain ⟨j0, j1, j2⟩ := hS; go_simp; rfl)); (refine wt_move 3 8 rfl rfl (by kernel_rfl) (by kernel_rfl) (by kernel_rfl) (by kernel_rfl) (fun _ _ _ h => h) rfl hS0 (by (repeat (first | (refine slot_hit (N := 53) ?_ (by rfl); (repeat (refine sz_put ?_)); assumption; done) | (apply slot_miss; focus rfl))); all_goals assumption) rfl ?_); (refine wt_take2 4 44 45 (v := ?_) rfl rfl (by kernel_rfl) (by kernel_rfl) (by kernel_rfl) (by kernel_rfl) (fun _ _ _ h => h) rfl hS0 (by (repeat (first | (refine slot_hit (N := 53) ?_ (by rfl); (repeat (refine sz_put ?_)); assumption; done) | (apply slot_miss; focus rfl))); all_goals assumption) (by (repeat (first | (refine slot_hit (N := 53) ?_ (by rfl); (repeat (refine sz_put ?_)); assumption; done) | (apply slot_miss; focus rfl))); all_goals assumption) (fun ev hk hv0 hv1 w hS => ?_) ?_; rotate_left; focus (obtain ⟨j0, j1, j2⟩ := hS; go_simp; rfl)); (refine wt_take1 5 46 (v := ?_) rfl rfl (by kernel_rfl) (by kernel_rfl) (by kernel_rfl) (by kernel_rfl) (fun _ _ _ h => h) rfl hS0 (by (repeat (first | (refine slot_hit (N := 53) ?_ (by rfl); (repeat (refine sz_put ?_)); assumption; done) | (apply slot_miss; focus rfl))); all_goals assumption) (fun ev hk hv0 w hS => ?_) ?_; rotate_left; focus (obtain ⟨j0, j1, j2⟩ := hS; go_simp; rfl)); (refine wt_take1 6 47 (v := ?_) rfl rfl (by kernel_rfl) (by kernel_rfl) (by kernel_rfl) (by kernel_rfl) (fun _ _ _ h => h) rfl hS0 (by (repeat (first | (refine slot_hit (N := 53) ?_ (by rfl); (repeat (refine sz_put ?_)); assumption; done) | (apply slot_miss; focus rfl))); all_goals assumption) (fun ev hk hv0 w hS => ?_) ?_; rotate_left; focus (obtain ⟨j0, j1, j2⟩ := hS; go_simp; rfl))
            refine wt_call1 7 48 (by kernel_rfl) rfl rfl rfl (by (repeat (first | (refine slot_hit (N := 53) ?_ (by rfl); (repeat (refine sz_put ?_)); assumption; done) | (apply slot_miss; focus rfl))); all_goals assumption) (f := ?_) (args := ?_) (fun ev hk hkf hv0 => ?_) ?_; rotate_left 2; focus (go_simp; first | rfl | (constructor <;> rfl))
            (with_reducible refine (varOf_any e0 e1 _).mono ?_)
            rintro e w9 ⟨rfl, rfl⟩
            refine ⟨_, rfl, fun _ => hS0, ?_⟩
            (refine wt_take2 8 42 49 (v := ?_) rfl rfl (by kernel_rfl) (by kernel_rfl) (by kernel_rfl) (by kernel_rfl) (fun _ _ _ h => h) rfl hS0 (by (repeat (first | (refine slot_hit (N := 53) ?_ (by rfl); (repeat (refine sz_put ?_)); assumption; done) | (apply slot_miss; focus rfl))); all_goals assumption) (by (repeat (first | (refine slot_hit (N := 53) ?_ (by rfl); (repeat (refine sz_put ?_)); assumption; done) | (apply slot_miss; focus rfl))); all_goals assumption) (fun ev hk hv0 hv1 w hS => ?_) ?_; rotate_left; focus (obtain ⟨j0, j1, j2⟩ := hS; go_simp; rfl))
            refine wt_act1 9 50 (by kernel_rfl) rfl rfl rfl (by (repeat (first | (refine slot_hit (N := 53) ?_ (by rfl); (repeat (refine sz_put ?_)); assumption; done) | (apply slot_miss; focus rfl))); all_goals assumption) (w' := ?_) (fun ev hk hv0 => ?_) ?_; rotate_left; focus (go_simp; rfl)
            have hD9 := hD8.far (q := ⟨w.heap.size + 1, (r.gl f / 2).toNat, none⟩) (by simp) (.bool false)
            have hH9 := hH8.far (q := ⟨w.heap.size + 1, (r.gl f / 2).toNat, none⟩) (by simp) (.bool false)
            refine ⟨fun _ => ⟨hD9.cell 0, ?_, ?_⟩, ?_⟩
            · have := hH9.cell 3; rwa [show (rc r p)[3]? = some (.slice p.A3 r.na p.k3) from rfl, HAA.out] at this
            · obtain ⟨a2, ea2, _, hcs2⟩ := hm.an (by omega)
              obtain rfl : a2 = a' := Option.some.inj (ea2.symm.trans HAA.out)
              have hlt2 : a2.block < w.heap.size := by have := hm.an (by omega); obtain ⟨a3, e3', h3, _⟩ := this; rw [ea2] at e3'; cases e3'; exact h3
              exact (World.cell?_of_block (Below.heap_setCell w8 ⟨w.heap.size + 1, (r.gl f / 2).toNat, none⟩ (.bool false) _ (by rw [add_block]; simp; omega))).trans HS0.out.2.2
            refine wt_done (by kernel_rfl) (NoPanic.normal ?_) _
            have ha := HA.out
            subst ha
            clear hS0
            go_wp2
            go_roundw
            case rel => exact ⟨k + 1, by omega, by go_num, HL, by
              rw [HX.out]
              exact own_setv HO8.out (by omega), hH9, hD9, (HR8.out.set _ _).congr (fun j hj => by rw [← HRW.out j]; split <;> rfl), below_dn (hB8.setCell (by simp) _) 1, by simpa [World.setCell] using hz8⟩
            case measure => simp [intOf]; omega
          · have hfe : r.fnd (r.st k).1 = r.na := by have := Rw.fnd_le (r := r) (B := (r.st k).1); omega
            have HF := Lib.hid (fxI_no hfe)
            have HO := Lib.hid (show (r.st k).2 = r.ord ∧ r.ord.length = k by
              have h := Rw.st_done hfe hk
              have h2 : r.ord = (r.st k).2 := by unfold Rw.ord; rw [h]
              exact ⟨h2.symm, by rw [h2]; exact hlen.out⟩)
            clear hf hfe
            go_wp2_with (go_at_call 93; (with_reducible refine I.out.mono ?_); rw [HF.out]; rintro e w1 ⟨rfl, hb1⟩; have hB1 := Below.step hBr hBr.size hb1; have hO1 := own_call hown hb1)
            go_ret
            refine ⟨_, rfl, ?_, hB1⟩
            rw [nL_len, HO.out.2, ← HO.out.1]
            exact own_base hO1 hw0
        · have HO := Lib.hid (show k = r.na by omega)
          have HO2 := Lib.hid (show (r.st k).2 = r.ord ∧ r.ord.length = k by
            have h : k = r.na := by omega
            have h2 : r.ord = (r.st k).2 := by rw [h]; rfl
            exact ⟨h2.symm, by rw [h2]; exact hlen.out⟩)
          have hk1 : ¬ (k : Int) < (r.na : Int) := by omega
          clear hk hlt
          go_wp2
          go_ret
          refine ⟨_, rfl, ?_, hBr⟩
          rw [nL_len, HO2.out.2, ← HO2.out.1]
          exact own_base hown hw0

end Go.Proofs.YtkpjpokeonppbaaGreatDoor
