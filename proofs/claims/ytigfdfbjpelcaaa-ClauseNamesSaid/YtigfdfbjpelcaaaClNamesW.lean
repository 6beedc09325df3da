/- The limits and errors: the loop over lists that are no clauses, and what is called one by one. -/
import Derived.Test.YtigfdfbjpelcaaaClVals
namespace Go.Proofs.Ytigfdfbjpelcaaa
open Go Go.RowKit
set_option linter.unusedVariables false
set_option linter.unusedSimpArgs false

/-- lists that are no clauses -/
def bd (i : Nat) : List Int := match i with
  | 0 => [1] | 1 => [0] | 2 => [-2] | 3 => [12] | 4 => [4, 3] | 5 => [4, 4] | 6 => [4, 5] | _ => [3, 2]
def bdn (i : Nat) : Nat := if i < 4 then 1 else 2
theorem eight {i : Nat} (h : i < 8) : i = 0 ∨ i = 1 ∨ i = 2 ∨ i = 3 ∨ i = 4 ∨ i = 5 ∨ i = 6 ∨ i = 7 := by omega
theorem bd_len {i : Nat} (h : i < 8) : (bd i).length = bdn i := by rcases eight h with rfl | rfl | rfl | rfl | rfl | rfl | rfl | rfl <;> rfl
theorem bd_ck {i : Nat} (h : i < 8) : ckE 5 (bd i) = 8 := by rcases eight h with rfl | rfl | rfl | rfl | rfl | rfl | rfl | rfl <;> decide
theorem bd_64 {i : Nat} (h : i < 8) : ∀ x ∈ bd i, I64 x := by rcases eight h with rfl | rfl | rfl | rfl | rfl | rfl | rfl | rfl <;> exact i64_all (by decide)
theorem bd_i1 {i : Nat} (h : i < 8) : imE 5 [] (bd i) = 8 ∧ imB 5 [] (bd i) = false ∧ imE 5 (bd i) [] = 8 := by rcases eight h with rfl | rfl | rfl | rfl | rfl | rfl | rfl | rfl <;> decide
theorem bd_rv {i : Nat} (h : i < 8) : rvE 5 (bd i) [] 9 = 8 ∧ rvC 5 (bd i) [] 9 = [] ∧ rvA 5 (bd i) [] 9 = false := by
  have h1 := (bd_i1 h).2.2
  obtain ⟨a, b, c⟩ := rv_im (n := 5) (a := bd i) (b := []) (v := 9) (by rw [h1]; decide)
  exact ⟨a.trans h1, b, c⟩
/-- the eight lists and the list of them -/
def bdW (w : World) : World := ((((((((w.alloc (.cells #[.int .i64 1] 3)).alloc (.cells #[.int .i64 0] 3)).alloc (.cells #[.int .i64 (-2)] 3)).alloc (.cells #[.int .i64 12] 3)).alloc (.cells #[.int .i64 4, .int .i64 3] 3)).alloc (.cells #[.int .i64 4, .int .i64 4] 3)).alloc (.cells #[.int .i64 4, .int .i64 5] 3)).alloc (.cells #[.int .i64 3, .int .i64 2] 3))
def bdC (g : Nat) : Array Value := #[.slice (some ⟨g, 0, none⟩) 1 1, .slice (some ⟨g + 1, 0, none⟩) 1 1, .slice (some ⟨g + 2, 0, none⟩) 1 1, .slice (some ⟨g + 3, 0, none⟩) 1 1, .slice (some ⟨g + 4, 0, none⟩) 2 2, .slice (some ⟨g + 5, 0, none⟩) 2 2, .slice (some ⟨g + 6, 0, none⟩) 2 2, .slice (some ⟨g + 7, 0, none⟩) 2 2]
theorem bdC_at (g : Nat) {i : Nat} (h : i < 8) : (bdC g)[i]? = some (.slice (some ⟨g + i, 0, none⟩) (bdn i) (bdn i)) := by rcases eight h with rfl | rfl | rfl | rfl | rfl | rfl | rfl | rfl <;> rfl
theorem bdW_size (w : World) : (bdW w).heap.size = w.heap.size + 8 := by unfold bdW; simp only [World.size_alloc]
theorem bdW_has (w : World) {i : Nat} (h : i < 8) : Has (bdW w) (w.heap.size + i) 3 (iC (bd i)).toArray := by
  unfold bdW
  rcases eight h with rfl | rfl | rfl | rfl | rfl | rfl | rfl | rfl
  · exact (((((((Has.new' _ _ rfl).al _).al _).al _).al _).al _).al _).al _
  · exact ((((((Has.new' _ _ (by simp only [World.size_alloc])).al _).al _).al _).al _).al _).al _
  · exact (((((Has.new' _ _ (by simp only [World.size_alloc])).al _).al _).al _).al _).al _
  · exact ((((Has.new' _ _ (by simp only [World.size_alloc])).al _).al _).al _).al _
  · exact (((Has.new' _ _ (by simp only [World.size_alloc])).al _).al _).al _
  · exact ((Has.new' _ _ (by simp only [World.size_alloc])).al _).al _
  · exact (Has.new' _ _ (by simp only [World.size_alloc])).al _
  · exact Has.new' _ _ (by simp only [World.size_alloc])
theorem bdW_below (w : World) : Below w.heap.size w (bdW w) := by
  unfold bdW
  exact (((((((((Below.refl _ _).alloc (Nat.le_refl _) _).alloc (by simp only [World.size_alloc]; omega) _).alloc (by simp only [World.size_alloc]; omega) _).alloc (by simp only [World.size_alloc]; omega) _).alloc (by simp only [World.size_alloc]; omega) _).alloc (by simp only [World.size_alloc]; omega) _).alloc (by simp only [World.size_alloc]; omega) _).alloc (by simp only [World.size_alloc]; omega) _)
theorem bd_ia {w W : World} {i : Nat} (h : i < 8) (hH : Has W (w.heap.size + i) 3 (iC (bd i)).toArray) : Ia W W.heap.size (some ⟨w.heap.size + i, 0, none⟩) (bd i) (bdn i) := by
  refine ⟨fun hl => ⟨_, rfl, hH.lt, fun j hj => ?_⟩, (fun h => by cases h), by rw [bd_len h]; exact Nat.le_refl _⟩
  rw [show (⟨w.heap.size + i, 0, none⟩ : Addr).add j = ⟨w.heap.size + i, j, none⟩ by unfold Addr.add; split <;> simp_all, hH.cell j]
  have := iC_at (bd i) j hj
  simpa using this
theorem bls0 (w : World) (n : Nat) : BlsAt (w.alloc (.cells (madeCells #[.bool false] n) 4)) (w.alloc (.cells (madeCells #[.bool false] n) 4)).heap.size (some ⟨w.heap.size, 0, none⟩) n (fun _ => false) := row_bools (World.rowIs_made w (.bool false) n 4)
theorem make_nil {v : Int} {l' : List Int} {m' : Nat} {b : Bool} {e3 : Int} (h1 : mkL v [] = l') (h2 : mkA v [] = b) (h3 : mkE v [] = e3) (hm' : l'.length = m') (W : World) :
    Calls Try.prog 10 #[.int .i64 v, .slice none 0 0] W fun e w' => ∃ A k, e = .returned (.tuple #[.slice A m' k, .bool b, .int .i64 e3]) ∧ Ia w' w'.heap.size A l' k ∧ Below W.heap.size W w' := by
  refine (make_any v none [] 0 W (Ia.nil _ _) (by simp) (fun x hx => by cases hx)).mono fun e w' ⟨A, k, e1, hI, hb⟩ => ⟨A, k, ?_, ?_, hb⟩
  · rw [e1, h1, h2, h3, hm']
  · rw [h1] at hI; exact hI
theorem mk_e2 {v : Int} {l : List Int} (h : v < 0 ∨ 4000 < v) : mkL v l = [] ∧ mkA v l = false ∧ mkE v l = 2 := by
  have e := mkE_lo (l := l) h
  obtain ⟨a, b⟩ := mk_err (v := v) (l := l) (by rw [e]; decide)
  exact ⟨a, b, e⟩
theorem mk_e8 {v : Int} {l : List Int} (h : mkE v l = 8) : mkL v l = [] ∧ mkA v l = false ∧ mkE v l = 8 := by
  obtain ⟨a, b⟩ := mk_err (v := v) (l := l) (by rw [h]; decide)
  exact ⟨a, b, h⟩
theorem rv_e6 {n : Int} {a b : List Int} {v : Int} (h : imE n a b = 0) (h2 : rvOk a b v = false) : rvC n a b v = [] ∧ rvA n a b v = false ∧ rvE n a b v = 6 := by
  obtain ⟨x, y, z⟩ := rv_no h h2
  exact ⟨y, z, x⟩
theorem rv_l : rvC 5 [3] [2] 1 = [] ∧ rvA 5 [3] [2] 1 = false ∧ rvE 5 [3] [2] 1 = 0 := by
  obtain ⟨r1, r2, r3⟩ := rv_yes (n := 5) (a := [3]) (b := [2]) (v := 1) (by decide) (by decide)
  have hl : rvL [3] [2] 1 = [] := by decide
  rw [hl] at r2 r3
  obtain ⟨m1, m2, m3⟩ := mk_lit (v := 5) (l := []) (l' := []) (by omega) (by decide) (by decide) (by decide) (fun x => Iff.rfl)
  exact ⟨r2.trans m1, r3.trans m2, r1⟩

set_option maxRecDepth 100000 in
set_option maxHeartbeats 40000000 in
theorem names13_any (w : World) : Calls Try.prog 5 #[] w fun e w' => e = .returned (.bool true) ∧ Below w.heap.size w w' := by
  have hmk : ∀ w : World, (Instr.makeSlice 23 (.int .i64 5) (.int .i64 5)).run Try.prog w = .ok (.slice (some ⟨w.heap.size, 0, none⟩) 5 5) (w.alloc (.cells (madeCells #[.bool false] 5) 4)) := fun w =>
    run_make_row' 23 4 (.bool false) 1 Try.underlying23 info_bl13 rfl .i64 .i64 5 (by omega) (by omega) w
  have hB0 : Below w.heap.size w ((bdW w).alloc (.cells (bdC w.heap.size) 22)) := (bdW_below w).alloc (bdW_below w).size _
  have hC0 : Has ((bdW w).alloc (.cells (bdC w.heap.size) 22)) (w.heap.size + 8) 22 (bdC w.heap.size) := Has.new' _ _ (bdW_size w)
  have HI0 := Lib.hid fun (i : Nat) (h : i < 8) => (bdW_has w h).al (.cells (bdC w.heap.size) 22)
  have H0 := Lib.hid (And.intro hB0 hC0)
  clear hB0 hC0
  go_enter Try.func5, Try.ntmps5
  go_wp2
  go_loopw [2] (fun kk wr => ∃ i : Nat, i ≤ 8 ∧ kk = .int .i64 (i : Int) ∧ Below w.heap.size w wr ∧ Has wr (w.heap.size + 8) 22 (bdC w.heap.size) ∧ ∀ j, j < 8 → Has wr (w.heap.size + j) 3 (iC (bd j)).toArray) (fun kk _ => 8 - (intOf kk).toNat)
  case atStart => exact ⟨0, Nat.zero_le _, rfl, H0.out.1, H0.out.2, HI0.out⟩
  case round =>
    obtain ⟨i, hi, rfl, hB, hC, hI⟩ := hrel
    by_cases hlt : i < 8
    · have y := (hC.cell i).trans (bdC_at w.heap.size hlt)
      have i0 : (0 : Int) ≤ (i : Int) := by omega
      have i1 : (i : Int) < 8 := by omega
      have hH1 := hI i hlt
      have hE : ckE ((5 : Nat) : Int) (bd i) = 8 := bd_ck hlt
      have hT : trB ((5 : Nat) : Int) (fun _ => false) (bd i) = false := by unfold trB; rw [hE]; rfl
      have hbA : Below wr.heap.size wr (wr.drew.alloc (.cells (madeCells #[.bool false] 5) 4)) := (below_dn (Below.refl _ _) 1).alloc (Nat.le_refl _) _
      have hln : (bd i).length ≤ 100000 := by rw [bd_len hlt]; unfold bdn; split <;> omega
      have DT := true_any (some ⟨w.heap.size + i, 0, none⟩) (bd i) (bdn i) (some ⟨wr.heap.size, 0, none⟩) 5 5 (fun _ => false) (wr.drew.alloc (.cells (madeCells #[.bool false] 5) 4)) (bd_ia hlt (hH1.keep hbA hH1.lt)) hln (bd_64 hlt) (bls0 wr.drew 5) (by omega)
      rw [hT, hE, bd_len hlt] at DT
      have DI := fun (W : World) (hb : Below wr.heap.size wr W) => implies_any 5 none [] 0 (some ⟨w.heap.size + i, 0, none⟩) (bd i) (bdn i) W (Ia.nil _ _) (by simp) (fun x hx => by cases hx) (bd_ia hlt (hH1.keep hb hH1.lt)) hln (bd_64 hlt)
      rw [(bd_i1 hlt).1, (bd_i1 hlt).2.1, bd_len hlt] at DI
      have DR := fun (W : World) (hb : Below wr.heap.size wr W) => resolve_any 5 (some ⟨w.heap.size + i, 0, none⟩) (bd i) (bdn i) none [] 0 9 W (bd_ia hlt (hH1.keep hb hH1.lt)) (by rw [bd_len hlt]; unfold bdn; split <;> omega) (bd_64 hlt) (Ia.nil _ _) (by simp) (fun x hx => by cases hx)
      rw [(bd_rv hlt).1, (bd_rv hlt).2.1, (bd_rv hlt).2.2, bd_len hlt] at DR
      have DR' : ∀ (W : World), Below wr.heap.size wr W → Calls Try.prog 19 #[.int .i64 5, .slice (some ⟨w.heap.size + i, 0, none⟩) (bdn i) (bdn i), .slice none 0 0, .int .i64 9] W fun e w' => ∃ A k, e = .returned (.tuple #[.slice A 0 k, .bool false, .int .i64 8]) ∧ Below W.heap.size W w' := fun W hb => (DR W hb).mono fun e w' ⟨A, k, e1, _, hb2⟩ => ⟨A, k, e1, hb2⟩
      have DC := fun (W : World) (hb : Below wr.heap.size wr W) => check_any 5 (some ⟨w.heap.size + i, 0, none⟩) (bd i) (bdn i) W (bd_ia hlt (hH1.keep hb hH1.lt)) hln (bd_64 hlt)
      rw [bd_ck hlt, bd_len hlt] at DC
      simp only [List.length_nil] at DI
      obtain ⟨q, hq⟩ : ∃ q, q = bdn i := ⟨_, rfl⟩
      rw [← hq] at y DT DI DR' DC
      have HK := Lib.hid (And.intro hB (And.intro hC hI))
      have hS0 : (fun W : World => W.cell? ⟨w.heap.size + 8, i, none⟩ = some (.slice (some ⟨w.heap.size + i, 0, none⟩) q q)) wr.drew := y
      clear hB hC hI hH1 hE hT hln DR hq
      go_wp2
      refine wp_slots (fun f => Sz f 289 ∧ Slot f 1 (.slice (some ⟨w.heap.size + 8, 0, none⟩) 8 8) ∧ Slot f 2 (.int .i64 (i : Int))) ⟨⟨rfl, rfl⟩, ⟨rfl⟩, ⟨rfl⟩⟩ fun a0 hA0 hR => ?_
      obtain ⟨hZ, hs1, hs2⟩ := hR
      have HA0 := Lib.hid hA0
      clear hA0
      refine wp_region_T (fun W : World => W.cell? ⟨w.heap.size + 8, i, none⟩ = some (.slice (some ⟨w.heap.size + i, 0, none⟩) q q)) 11 (by kernel_rfl) ?_
      refine WT.h ?_
      (refine wt_move 0 1 rfl rfl (by kernel_rfl) (by kernel_rfl) (by kernel_rfl) (by kernel_rfl) (fun _ _ _ h => h) rfl hS0 (by (repeat (first | (refine slot_hit (N := 289) ?_ (by rfl); (repeat (refine sz_put ?_)); assumption; done) | (apply slot_miss; focus rfl))); all_goals assumption) rfl ?_); (refine wt_move 1 2 rfl rfl (by kernel_rfl) (by kernel_rfl) (by kernel_rfl) (by kernel_rfl) (fun _ _ _ h => h) rfl hS0 (by (repeat (first | (refine slot_hit (N := 289) ?_ (by rfl); (repeat (refine sz_put ?_)); assumption; done) | (apply slot_miss; focus rfl))); all_goals assumption) rfl ?_); (refine wt_take2 2 65 66 (v := ?_) rfl rfl (by kernel_rfl) (by kernel_rfl) (by kernel_rfl) (by kernel_rfl) (fun _ _ _ h => h) rfl hS0 (by (repeat (first | (refine slot_hit (N := 289) ?_ (by rfl); (repeat (refine sz_put ?_)); assumption; done) | (apply slot_miss; focus rfl))); all_goals assumption) (by (repeat (first | (refine slot_hit (N := 289) ?_ (by rfl); (repeat (refine sz_put ?_)); assumption; done) | (apply slot_miss; focus rfl))); all_goals assumption) (fun ev hk hv0 hv1 w hS => ?_) ?_; rotate_left; focus (obtain j1 := hS; go_simp; rfl)); (refine wt_take1 3 67 (v := ?_) rfl rfl (by kernel_rfl) (by kernel_rfl) (by kernel_rfl) (by kernel_rfl) (fun _ _ _ h => h) rfl hS0 (by (repeat (first | (refine slot_hit (N := 289) ?_ (by rfl); (repeat (refine sz_put ?_)); assumption; done) | (apply slot_miss; focus rfl))); all_goals assumption) (fun ev hk hv0 w hS => ?_) ?_; rotate_left; focus (obtain j1 := hS; go_simp; rfl))
      refine wt_val0 4  (by kernel_rfl) rfl rfl rfl  (v := ?_) (w' := ?_) (fun ev hk  => ?_) ?_; rotate_left 2; focus (go_simp; first | rfl | (constructor <;> rfl) | exact hmk _)
      have hS0 : (fun W : World => W.cell? ⟨w.heap.size + 8, i, none⟩ = some (.slice (some ⟨w.heap.size + i, 0, none⟩) q q)) (wr.drew.alloc (.cells (madeCells #[.bool false] 5) 4)) := ca y _
      refine ⟨fun _ => hS0, ?_⟩
      refine wt_call2 5 68 69 (by kernel_rfl) rfl rfl rfl (by (repeat (first | (refine slot_hit (N := 289) ?_ (by rfl); (repeat (refine sz_put ?_)); assumption; done) | (apply slot_miss; focus rfl))); all_goals assumption) (by (repeat (first | (refine slot_hit (N := 289) ?_ (by rfl); (repeat (refine sz_put ?_)); assumption; done) | (apply slot_miss; focus rfl))); all_goals assumption) (f := ?_) (args := ?_) (fun ev hk hkf hv0 hv1 => ?_) ?_; rotate_left 2; focus (go_simp; first | rfl | (constructor <;> rfl))
      refine DT.mono ?_
      rintro e w5 ⟨rfl, hb5⟩
      have hB5 : Below wr.heap.size wr w5 := Below.step hbA hbA.size hb5
      have y5 : w5.cell? ⟨w.heap.size + 8, i, none⟩ = some (.slice (some ⟨w.heap.size + i, 0, none⟩) q q) := (hB5.cell (cell_lt y)).trans y
      have hS0 : (fun W : World => W.cell? ⟨w.heap.size + 8, i, none⟩ = some (.slice (some ⟨w.heap.size + i, 0, none⟩) q q)) w5 := y5
      refine ⟨_, rfl, fun _ => hS0, ?_⟩
      (refine wt_move 6 70 rfl rfl (by kernel_rfl) (by kernel_rfl) (by kernel_rfl) (by kernel_rfl) (fun _ _ _ h => h) rfl hS0 (by (repeat (first | (refine slot_hit (N := 289) ?_ (by rfl); (repeat (refine sz_put ?_)); assumption; done) | (apply slot_miss; focus rfl))); all_goals assumption) rfl ?_); (refine wt_take1 7 64 (v := ?_) rfl rfl (by kernel_rfl) (by kernel_rfl) (by kernel_rfl) (by kernel_rfl) (fun _ _ _ h => h) rfl hS0 (by (repeat (first | (refine slot_hit (N := 289) ?_ (by rfl); (repeat (refine sz_put ?_)); assumption; done) | (apply slot_miss; focus rfl))); all_goals assumption) (fun ev hk hv0 w hS => ?_) ?_; rotate_left; focus (obtain j1 := hS; go_simp; rfl)); (refine wt_take1 8 64 (v := ?_) rfl rfl (by kernel_rfl) (by kernel_rfl) (by kernel_rfl) (by kernel_rfl) (fun _ _ _ h => h) rfl hS0 (by (repeat (first | (refine slot_hit (N := 289) ?_ (by rfl); (repeat (refine sz_put ?_)); assumption; done) | (apply slot_miss; focus rfl))); all_goals assumption) (fun ev hk hv0 w hS => ?_) ?_; rotate_left; focus (obtain j1 := hS; go_simp; rfl)); (refine wt_assign 9 71 rfl rfl (by kernel_rfl) (by kernel_rfl) (by kernel_rfl) (by kernel_rfl) (fun _ _ _ h => h) rfl hS0 (by (repeat (first | (refine slot_hit (N := 289) ?_ (by rfl); (repeat (refine sz_put ?_)); assumption; done) | (apply slot_miss; focus rfl))); all_goals assumption) rfl ?_); (refine wt_assign 10 72 rfl rfl (by kernel_rfl) (by kernel_rfl) (by kernel_rfl) (by kernel_rfl) (fun _ _ _ h => h) rfl hS0 (by (repeat (first | (refine slot_hit (N := 289) ?_ (by rfl); (repeat (refine sz_put ?_)); assumption; done) | (apply slot_miss; focus rfl))); all_goals assumption) rfl ?_)
      refine wt_done (by kernel_rfl) (NoPanic.normal ?_) _
      have ha := HA0.out
      subst ha
      clear hS0 hs1 hs2 hZ DT hmk hbA hb5
      go_wp2_with (first
        | (go_at_call 17; (with_reducible refine (DI w5 hB5).mono ?_); rintro e w6 ⟨rfl, hb6⟩
           have hB6 := bn hB5 hb6
           have y6 : w6.cell? ⟨w.heap.size + 8, i, none⟩ = some (.slice (some ⟨w.heap.size + i, 0, none⟩) q q) := (hB6.cell (cell_lt y)).trans y)
        | (go_at_call 19; (with_reducible refine (DR' w6 hB6).mono ?_); rintro e w7 ⟨A7, k7, rfl, hb7⟩
           have hB7 := bn hB6 hb7
           have y7 : w7.cell? ⟨w.heap.size + 8, i, none⟩ = some (.slice (some ⟨w.heap.size + i, 0, none⟩) q q) := (hB7.cell (cell_lt y)).trans y)
        | (go_at_call 15; (with_reducible refine (DC w7 hB7).mono ?_); rintro e w8 ⟨rfl, d8, rfl⟩
           have hB8 := below_dn hB7 d8))
      go_roundw
      case rel => exact ⟨i + 1, by omega, by go_num, bn HK.out.1 hB8, HK.out.2.1.keep hB8 HK.out.2.1.lt, fun j hj => (HK.out.2.2 j hj).keep hB8 (HK.out.2.2 j hj).lt⟩
      case measure => simp [intOf]; omega
    · obtain rfl : i = 8 := by omega
      have HB := Lib.hid hB
      clear hB hC hI hmk H0 HI0 hi hlt
      have hmk2 : ∀ w : World, (Instr.makeSlice 23 (.int .i64 4001) (.int .i64 4001)).run Try.prog w = .ok (.slice (some ⟨w.heap.size, 0, none⟩) 4001 4001) (w.alloc (.cells (madeCells #[.bool false] 4001) 4)) := fun w =>
        run_make_row' 23 4 (.bool false) 1 Try.underlying23 info_bl13 rfl .i64 .i64 4001 (by omega) (by omega) w
      have qa := mk_e2 (v := -1) (l := [0]) (by omega)
      have qb := mk_e2 (v := 4001) (l := []) (by omega)
      have qc := mk_e8 (v := 3) (l := [8]) (by decide)
      have qd := mk_e8 (v := 3) (l := [1]) (by decide)
      have qe := mk_lit (v := 0) (l := []) (l' := []) (by omega) (by decide) (by decide) (by decide) (fun x => Iff.rfl)
      have qf := mk_lit (v := 4000) (l := [8001, 2]) (l' := [2, 8001]) (by omega) (by decide) (by decide) (by decide) (fun x => by simp; omega)
      have Da := make_lit (m := 1) (m' := 0) (cs := #[.int .i64 0]) qa.1 qa.2.1 qa.2.2 rfl rfl (by decide) (i64_all (by decide)) rfl
      have Db := make_nil (m' := 0) qb.1 qb.2.1 qb.2.2 rfl
      have Dc := make_lit (m := 1) (m' := 0) (cs := #[.int .i64 8]) qc.1 qc.2.1 qc.2.2 rfl rfl (by decide) (i64_all (by decide)) rfl
      have Dd := make_lit (m := 1) (m' := 0) (cs := #[.int .i64 1]) qd.1 qd.2.1 qd.2.2 rfl rfl (by decide) (i64_all (by decide)) rfl
      have De := make_nil (m' := 0) qe.1 qe.2.1 qe.2.2 rfl
      have Df := make_lit (m := 2) (m' := 2) (cs := #[.int .i64 8001, .int .i64 2]) qf.1 qf.2.1 qf.2.2 rfl rfl (by decide) (i64_all (by decide)) rfl
      have Dg : ∀ W : World, Calls Try.prog 12 #[.slice none 0 0, .slice (some ⟨W.heap.size, 0, none⟩) 4001 4001] (W.alloc (.cells (madeCells #[.bool false] 4001) 4)) fun e w' => e = .returned (.tuple #[.bool false, .int .i64 2]) ∧ Below W.heap.size W w' := fun W => by
        have h := true_any none [] 0 (some ⟨W.heap.size, 0, none⟩) 4001 4001 (fun _ => false) (W.alloc (.cells (madeCells #[.bool false] 4001) 4)) (Ia.nil _ _) (by simp) (fun x hx => by cases hx) (bls0 W 4001) (by omega)
        have e1 : ckE ((4001 : Nat) : Int) [] = 2 := ckE_lo (by omega)
        rw [show trB ((4001 : Nat) : Int) (fun _ => false) [] = false by unfold trB; rw [e1]; rfl, e1] at h
        exact h.mono fun e w' hh => ⟨hh.1, below_litI _ _ hh.2⟩
      have Dh : ∀ W : World, Calls Try.prog 12 #[.slice none 0 0, .slice none 0 0] W fun e w' => e = .returned (.tuple #[.bool false, .int .i64 0]) ∧ Below W.heap.size W w' := fun W => by
        have h := true_any none [] 0 none 0 0 (fun _ => false) W (Ia.nil _ _) (by simp) (fun x hx => by cases hx) (fun h => absurd h (Nat.lt_irrefl 0)) (by omega)
        have e1 : ckE ((0 : Nat) : Int) [] = 0 := by decide
        rw [show trB ((0 : Nat) : Int) (fun _ => false) [] = false by unfold trB trs; simp, e1] at h
        exact h
      have qi := rv_e6 (n := 5) (a := [2, 4]) (b := [2, 5]) (v := 1) (by decide) (by decide)
      have qj := rv_e6 (n := 5) (a := [2]) (b := [3]) (v := 0) (by decide) (by decide)
      have qk := rv_e6 (n := 5) (a := [2]) (b := [3]) (v := 6) (by decide) (by decide)
      have qn := rv_e6 (n := 5) (a := [2]) (b := [3]) (v := 9223372036854775807) (by decide) (by decide)
      have Di := resolve_lit (m := 2) (m2 := 2) (m' := 0) (cs := #[.int .i64 2, .int .i64 4]) (cs2 := #[.int .i64 2, .int .i64 5]) qi.1 qi.2.1 qi.2.2 rfl rfl rfl (by decide) (by decide) (i64_all (by decide)) (i64_all (by decide)) rfl rfl
      have Dj := resolve_lit (m := 1) (m2 := 1) (m' := 0) (cs := #[.int .i64 2]) (cs2 := #[.int .i64 3]) qj.1 qj.2.1 qj.2.2 rfl rfl rfl (by decide) (by decide) (i64_all (by decide)) (i64_all (by decide)) rfl rfl
      have Dk := resolve_lit (m := 1) (m2 := 1) (m' := 0) (cs := #[.int .i64 2]) (cs2 := #[.int .i64 3]) qk.1 qk.2.1 qk.2.2 rfl rfl rfl (by decide) (by decide) (i64_all (by decide)) (i64_all (by decide)) rfl rfl
      have Dl := resolve_lit (m := 1) (m2 := 1) (m' := 0) (cs := #[.int .i64 3]) (cs2 := #[.int .i64 2]) rv_l.1 rv_l.2.1 rv_l.2.2 rfl rfl rfl (by decide) (by decide) (i64_all (by decide)) (i64_all (by decide)) rfl rfl
      have Dn := resolve_lit (m := 1) (m2 := 1) (m' := 0) (cs := #[.int .i64 2]) (cs2 := #[.int .i64 3]) qn.1 qn.2.1 qn.2.2 rfl rfl rfl (by decide) (by decide) (i64_all (by decide)) (i64_all (by decide)) rfl rfl
      have Dm : ∀ W : World, Calls Try.prog 17 #[.int .i64 4001, .slice none 0 0, .slice none 0 0] W fun e w' => e = .returned (.tuple #[.bool false, .int .i64 2]) ∧ Below W.heap.size W w' := fun W => by
        have h := implies_any 4001 none [] 0 none [] 0 W (Ia.nil _ _) (by simp) (fun x hx => by cases hx) (Ia.nil _ _) (by simp) (fun x hx => by cases hx)
        rw [show imE 4001 [] [] = 2 by decide, show imB 4001 [] [] = false by decide] at h
        exact h
      have Dp : ∀ W : World, Calls Try.prog 15 #[.int .i64 4001, .slice none 0 0] W fun e w' => e = .returned (.int .i64 2) ∧ ∃ d, w' = W.drewN d := fun W => by
        have h := check_any 4001 none [] 0 W (Ia.nil _ _) (by simp) (fun x hx => by cases hx)
        rw [show ckE 4001 [] = 2 by decide] at h
        exact h
      have Dq : ∀ W : World, Calls Try.prog 15 #[.int .i64 5, .slice (some ⟨W.heap.size, 0, none⟩) 4 4] (W.alloc (.cells #[.int .i64 3, .int .i64 4, .int .i64 7, .int .i64 10] 3)) fun e w' => e = .returned (.int .i64 0) ∧ Below W.heap.size W w' := fun W => by
        have h := check_any 5 _ [3, 4, 7, 10] _ _ (Ia.lit W (cs := #[.int .i64 3, .int .i64 4, .int .i64 7, .int .i64 10]) rfl) (by decide) (i64_all (by decide))
        rw [show ckE 5 [3, 4, 7, 10] = 0 by decide] at h
        refine h.mono fun e w' ⟨h1, d, h2⟩ => ⟨h1, ?_⟩
        rw [h2]
        exact below_dn ((Below.refl _ _).alloc (Nat.le_refl _) _) d
      clear qa qb qc qd qe qf qi qj qk qn
      go_wp2_with (first
        | (go_at_call 10; (with_reducible refine (Da _).mono ?_); rintro e wa ⟨Aa, ka, rfl, hIa, hba⟩
           have HBa := Lib.hid (bn HB.out hba))
        | (go_at_call 10; (with_reducible refine (Db wa).mono ?_); rintro e wb ⟨Ab, kb, rfl, hIb, hbb⟩
           have HBb := Lib.hid (bn HBa.out hbb))
        | (go_at_call 10; (with_reducible refine (Dc _).mono ?_); rintro e wc ⟨Ac, kc, rfl, hIc, hbc⟩
           have HBc := Lib.hid (bn HBb.out hbc))
        | (go_at_call 10; (with_reducible refine (Dd _).mono ?_); rintro e wd ⟨Ad, kd, rfl, hId, hbd⟩
           have HBd := Lib.hid (bn HBc.out hbd))
        | (go_at_call 10; (with_reducible refine (De wd).mono ?_); rintro e we ⟨Ae, ke, rfl, hIe, hbe⟩
           have HBe := Lib.hid (bn HBd.out hbe))
        | (go_at_call 10; (with_reducible refine (Df _).mono ?_); rintro e wf ⟨Af, kf, rfl, hIf, hbf⟩
           have HBf := Lib.hid (And.intro (bn HBe.out hbf) hIf)
           clear hIa hIb hIc hId hIe hba hbb hbc hbd hbe Da Db Dc Dd De hIf hbf Df)
        | (go_at_call 12; (with_reducible refine (Dg _).mono ?_); rintro e wg ⟨rfl, hbg⟩)
        | (go_at_call 12; (with_reducible refine (Dh wg).mono ?_); rintro e wh ⟨rfl, hbh⟩
           have HBh := Lib.hid (And.intro (bn (bn HBf.out.1 hbg) hbh) ((HBf.out.2.on hbg).on hbh))
           clear hbg hbh Dg Dh)
        | (go_at_call 19; (with_reducible refine (Di _).mono ?_); rintro e wi ⟨Ai, ki, rfl, hIi, hbi⟩
           have HBi := Lib.hid (And.intro (bn HBh.out.1 hbi) (HBh.out.2.on hbi)))
        | (go_at_call 19; (with_reducible refine (Dj _).mono ?_); rintro e wj ⟨Aj, kj, rfl, hIj, hbj⟩
           have HBj := Lib.hid (And.intro (bn HBi.out.1 hbj) (HBi.out.2.on hbj)))
        | (go_at_call 19; (with_reducible refine (Dk _).mono ?_); rintro e wk ⟨Ak, kk, rfl, hIk, hbk⟩
           have HBk := Lib.hid (And.intro (bn HBj.out.1 hbk) (HBj.out.2.on hbk)))
        | (go_at_call 19; (with_reducible refine (Dl _).mono ?_); rintro e wl ⟨Al, kl, rfl, hIl, hbl⟩
           have HBl := Lib.hid (And.intro (bn HBk.out.1 hbl) (HBk.out.2.on hbl)))
        | (go_at_call 17; (with_reducible refine (Dm wl).mono ?_); rintro e wm ⟨rfl, hbm⟩
           have HBm := Lib.hid (And.intro (bn HBl.out.1 hbm) (HBl.out.2.on hbm)))
        | (go_at_call 19; (with_reducible refine (Dn _).mono ?_); rintro e wn ⟨An, kn, rfl, hIn, hbn⟩
           have HBn := Lib.hid (And.intro (bn HBm.out.1 hbn) (HBm.out.2.on hbn))
           clear hIi hIj hIk hIl hIn hbi hbj hbk hbl hbm hbn)
        | (go_at_call 21; (with_reducible refine (alive13_any wn).mono ?_); rintro e wo ⟨rfl, hbo⟩
           have HBo := Lib.hid (And.intro (bn HBn.out.1 hbo) (HBn.out.2.on hbo))
           clear hbo)
        | (go_at_call 15; (with_reducible refine (Dp wo).mono ?_); rintro e wp ⟨rfl, dp, rfl⟩)
        | (go_at_call 15; (refine (Dq (wo.drewN dp)).mono ?_); rintro e wq ⟨rfl, hbq⟩
           have HBq := Lib.hid (And.intro (bn (below_dn HBo.out.1 dp) hbq) ((HBo.out.2.on (below_dn (Below.refl _ _) dp)).on hbq))
           clear hbq
           have Dr := same_lit (m := 2) (cs := #[.int .i64 2, .int .i64 8001]) HBq.out.2 rfl rfl (by decide) rfl)
        | (go_at_call 14; (with_reducible refine Dr.mono ?_); rintro e ws ⟨rfl, hbs⟩))
      go_ret
      exact ⟨rfl, bn HBq.out.1 hbs⟩

end Go.Proofs.Ytigfdfbjpelcaaa
