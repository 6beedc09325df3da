/- The contract of assign.Undo. -/
import Derived.Test.YtcmdongdjacgbaaAsProg4
namespace Go.Proofs.Ytcmdongdjacgbaa
open Go Go.RowKit Go.Lib Go.Sort
set_option linter.unusedVariables false
set_option linter.unusedSimpArgs false

set_option maxRecDepth 100000 in
set_option maxHeartbeats 4000000 in
theorem undo_bad (v : Int) (A : Option Addr) (t : List Int) (k : Nat) (B : Option Addr) (s : List Int) (q : Nat) (x : Int) (w : World) (h : Ia w w.heap.size A t k) (hl : t.length ≤ 100000) (hr : ∀ x ∈ t, I64 x) (h' : Ia w w.heap.size B s q) (hl' : s.length ≤ 100000) (hE : ¬ OkA v t s) :
    Calls Try.prog 16 #[asv v A t.length k B s.length q, .int .i64 x] w fun e w' => e = .returned (.tuple #[.agg #[.int .i64 0, .slice none 0 0, .slice none 0 0], .int .i64 8]) ∧ Below w.heap.size w w' := by
  have H0 := Bx2.new w (.int .i64 v) (.slice A t.length k) (.slice B s.length q)
  have D1 := aCheck_any v A t k B s q (bx2 w (.int .i64 v) (.slice A t.length k) (.slice B s.length q)) (h.on H0.b) hl hr (h'.on H0.b) hl'
  unfold bx2 at D1
  rw [aE_no hE] at D1
  obtain ⟨n, hn⟩ : ∃ n, n = t.length := ⟨_, rfl⟩
  obtain ⟨m, hm⟩ : ∃ m, m = s.length := ⟨_, rfl⟩
  rw [← hn, ← hm] at H0 D1 ⊢
  have HB := Lib.hid H0
  clear h hl hr h' hl' hn hm hE H0
  go_enter Try.func16, Try.ntmps16
  go_wp2_with (first
    | (go_at_call 18; (with_reducible refine D1.mono ?_); rintro e w2 ⟨rfl, hb2⟩
       have H2 := HB.out.on hb2
       obtain ⟨d0, d1, d2, f0, f1, f2⟩ := H2.d
       have HB2 := Lib.hid H2
       clear H2 hb2))
  refine bodyPost_ret (v := .tuple #[.agg #[.int .i64 0, .slice none 0 0, .slice none 0 0], .int .i64 8]) (by simp [results, Try.results16, go_sem, d0, d1, d2]) rfl ⟨rfl, ?_⟩
  exact st3_below HB2.out.b (Nat.le_succ _) _ _ _

set_option maxRecDepth 100000 in
set_option maxHeartbeats 4000000 in
theorem undo_arg (v : Int) (A : Option Addr) (t : List Int) (k : Nat) (B : Option Addr) (s : List Int) (q : Nat) (x : Int) (w : World) (h : Ia w w.heap.size A t k) (hl : t.length ≤ 100000) (hr : ∀ x ∈ t, I64 x) (h' : Ia w w.heap.size B s q) (hl' : s.length ≤ 100000) (hE : OkA v t s) (hx : x < 0 ∨ (s.length : Int) < x) :
    Calls Try.prog 16 #[asv v A t.length k B s.length q, .int .i64 x] w fun e w' => e = .returned (.tuple #[.agg #[.int .i64 0, .slice none 0 0, .slice none 0 0], .int .i64 2]) ∧ Below w.heap.size w w' := by
  have H0 := Bx2.new w (.int .i64 v) (.slice A t.length k) (.slice B s.length q)
  have D1 := aCheck_any v A t k B s q (bx2 w (.int .i64 v) (.slice A t.length k) (.slice B s.length q)) (h.on H0.b) hl hr (h'.on H0.b) hl'
  unfold bx2 at D1
  rw [aE_yes hE] at D1
  obtain ⟨n, hn⟩ : ∃ n, n = t.length := ⟨_, rfl⟩
  obtain ⟨m, hm⟩ : ∃ m, m = s.length := ⟨_, rfl⟩
  rw [← hn, ← hm] at H0 D1 ⊢
  rw [← hm] at hx
  have HB := Lib.hid H0
  clear h hl hr h' hl' hn hm hE H0
  by_cases hx0 : x < 0
  · clear hx
    go_enter Try.func16, Try.ntmps16
    go_wp2_with (first
      | (go_at_call 18; (with_reducible refine D1.mono ?_); rintro e w2 ⟨rfl, hb2⟩
         have H2 := HB.out.on hb2
         obtain ⟨c0, c1, c2⟩ := H2.c
         obtain ⟨d0, d1, d2, f0, f1, f2⟩ := H2.d
         have HB2 := Lib.hid H2
         clear H2 hb2))
    refine bodyPost_ret (v := .tuple #[.agg #[.int .i64 0, .slice none 0 0, .slice none 0 0], .int .i64 2]) (by simp [results, Try.results16, go_sem, d0, d1, d2]) rfl ⟨rfl, ?_⟩
    exact st3_below HB2.out.b (Nat.le_succ _) _ _ _
  · have hx1 : (m : Int) < x := by omega
    clear hx
    go_enter Try.func16, Try.ntmps16
    go_wp2_with (first
      | (go_at_call 18; (with_reducible refine D1.mono ?_); rintro e w2 ⟨rfl, hb2⟩
         have H2 := HB.out.on hb2
         obtain ⟨c0, c1, c2⟩ := H2.c
         obtain ⟨d0, d1, d2, f0, f1, f2⟩ := H2.d
         have HB2 := Lib.hid H2
         clear H2 hb2))
    refine bodyPost_ret (v := .tuple #[.agg #[.int .i64 0, .slice none 0 0, .slice none 0 0], .int .i64 2]) (by simp [results, Try.results16, go_sem, d0, d1, d2]) rfl ⟨rfl, ?_⟩
    exact st3_below HB2.out.b (Nat.le_succ _) _ _ _

set_option maxRecDepth 100000 in
set_option maxHeartbeats 4000000 in
theorem undo_yes (v : Int) (A : Option Addr) (t : List Int) (k : Nat) (B : Option Addr) (s : List Int) (q : Nat) (x : Nat) (w : World) (h : Ia w w.heap.size A t k) (hl : t.length ≤ 100000) (hr : ∀ x ∈ t, I64 x) (h' : Ia w w.heap.size B s q) (hl' : s.length ≤ 100000) (hE : OkA v t s) (hx : x ≤ s.length) :
    Calls Try.prog 16 #[asv v A t.length k B s.length q, .int .i64 (x : Int)] w (AsIs v (t.take (usz t.length s x)) (s.take x) 0 w) := by
  have H0 := Bx2.new w (.int .i64 v) (.slice A t.length k) (.slice B s.length q)
  have D1 := aCheck_any v A t k B s q (bx2 w (.int .i64 v) (.slice A t.length k) (.slice B s.length q)) (h.on H0.b) hl hr (h'.on H0.b) hl'
  unfold bx2 at D1
  rw [aE_yes hE] at D1
  have hu := usz_le hE.2.2 x
  obtain ⟨A', hcutT, hT⟩ := h.cap (usz t.length s x) hu
  obtain ⟨B', hcutS, hS⟩ := h'.cap x hx
  have D3 := fun (W : World) (hb : Below w.heap.size w W) => clone_any A' (t.take (usz t.length s x)) (usz t.length s x) W (hT.on hb) (by rw [List.length_take]; omega)
  have D4 := fun (W : World) (hb : Below w.heap.size w W) => clone_any B' (s.take x) x W (hS.on hb) (by rw [List.length_take]; omega)
  have el : (t.take (usz t.length s x)).length = usz t.length s x := by rw [List.length_take]; omega
  have el' : (s.take x).length = x := by rw [List.length_take]; omega
  rw [el] at D3
  rw [el'] at D4
  obtain ⟨T, hTT⟩ : ∃ T, T = t.take (usz t.length s x) := ⟨_, rfl⟩
  obtain ⟨S, hSS⟩ : ∃ S, S = s.take x := ⟨_, rfl⟩
  rw [← hTT] at D3 el ⊢
  rw [← hSS] at D4 el' ⊢
  obtain ⟨u, huu⟩ : ∃ u, u = usz t.length s x := ⟨_, rfl⟩
  rw [← huu] at hcutT D3 el hu
  obtain ⟨n, hn⟩ : ∃ n, n = t.length := ⟨_, rfl⟩
  obtain ⟨m, hm⟩ : ∃ m, m = s.length := ⟨_, rfl⟩
  rw [← hn] at H0 D1 hcutT hu huu ⊢
  rw [← hm] at H0 D1 hcutS hx ⊢
  have x0 : (0 : Int) ≤ (x : Int) := by omega
  have x1 : ¬ ((m : Int) < (x : Int)) := by omega
  have HB := Lib.hid H0
  have HE := Lib.hid (And.intro el el')
  -- the first part: how many stay
  have first : ∀ Q : World → Prop, True := fun _ => trivial
  by_cases hlt : x < m
  · obtain ⟨b, o, rfl, hb0, hcs⟩ := h'.cells (by omega)
    have z0 := hcs x (by omega)
    have hux : s.getD x 0 = (u : Int) := by
      rw [huu]
      unfold usz
      rw [if_pos (by omega)]
      have := hE.2.2.1 _ (getD_mem (show x < s.length by omega))
      omega
    rw [hux] at z0
    have HZ := Lib.hid fun (W : World) (hb : Below w.heap.size w W) => ((hb.cell (cell_lt z0)).trans z0 : W.cell? ⟨b, o + x, none⟩ = some (.int .i64 (u : Int)))
    have x2 : (x : Int) < (m : Int) := by omega
    clear h hl hr h' hl' hn hm hE H0 hT hS hTT hSS huu hcs z0 hux first el el' hx
    go_enter Try.func16, Try.ntmps16
    go_wp2_with (first
      | (go_at_call 18; (with_reducible refine D1.mono ?_); rintro e w2 ⟨rfl, hb2⟩
         have H2 := HB.out.on hb2
         obtain ⟨c0, c1, c2⟩ := H2.c
         have z2 := HZ.out _ H2.b
         have HB2 := Lib.hid H2
         clear H2 hb2))
    obtain ⟨g0, g1, g2⟩ := HB2.out.c
    have D3' := D3 w2.drew.drew (below_dn HB2.out.b 2)
    have HD4 := Lib.hid D4
    have hS0 : (fun W : World => W.cell? ⟨w.heap.size, 0, none⟩ = some (.int .i64 v) ∧ W.cell? ⟨w.heap.size, 1, none⟩ = some (.slice A n k) ∧ W.cell? ⟨w.heap.size, 2, none⟩ = some (.slice (some ⟨b, o, none⟩) m q)) w2.drew := ⟨g0, g1, g2⟩
    clear D1 D3 D4 c0 c1 c2 g0 g1 g2
    refine wp_slots (fun f => Sz f 56 ∧ Slot f 1 (.int .i64 (x : Int)) ∧ Slot f 2 (.pointer (some ⟨w.heap.size, 0, none⟩)) ∧ Slot f 4 (.pointer (some ⟨w.heap.size + 1, 0, none⟩)) ∧ Slot f 7 (.int .i64 (u : Int))) ⟨⟨rfl, rfl⟩, ⟨rfl⟩, ⟨rfl⟩, ⟨rfl⟩, ⟨rfl⟩⟩ fun a0 hA0 hR => ?_
    obtain ⟨hZ, hs1, hs2, hs4, hs7⟩ := hR
    clear hA0
    refine wp_region_T (fun W : World => W.cell? ⟨w.heap.size, 0, none⟩ = some (.int .i64 v) ∧ W.cell? ⟨w.heap.size, 1, none⟩ = some (.slice A n k) ∧ W.cell? ⟨w.heap.size, 2, none⟩ = some (.slice (some ⟨b, o, none⟩) m q)) 12 (by kernel_rfl) ?_
    refine WT.h ?_
    (refine wt_take1 0 2 (v := ?_) rfl rfl (by kernel_rfl) (by kernel_rfl) (by kernel_rfl) (by kernel_rfl) (fun _ _ _ h => h) rfl hS0 (by (repeat (first | (refine slot_hit (N := 56) ?_ (by rfl); (repeat (refine sz_put ?_)); assumption; done) | (apply slot_miss; focus rfl))); all_goals assumption) (fun ev hk hv0 w hS => ?_) ?_; rotate_left; focus (obtain ⟨j0, j1, j2⟩ := hS; go_simp; rfl)); (refine wt_take1 1 39 (v := ?_) rfl rfl (by kernel_rfl) (by kernel_rfl) (by kernel_rfl) (by kernel_rfl) (fun _ _ _ h => h) rfl hS0 (by (repeat (first | (refine slot_hit (N := 56) ?_ (by rfl); (repeat (refine sz_put ?_)); assumption; done) | (apply slot_miss; focus rfl))); all_goals assumption) (fun ev hk hv0 w hS => ?_) ?_; rotate_left; focus (obtain ⟨j0, j1, j2⟩ := hS; go_simp; rfl)); (refine wt_move 2 7 rfl rfl (by kernel_rfl) (by kernel_rfl) (by kernel_rfl) (by kernel_rfl) (fun _ _ _ h => h) rfl hS0 (by (repeat (first | (refine slot_hit (N := 56) ?_ (by rfl); (repeat (refine sz_put ?_)); assumption; done) | (apply slot_miss; focus rfl))); all_goals assumption) rfl ?_); (refine wt_move 3 7 rfl rfl (by kernel_rfl) (by kernel_rfl) (by kernel_rfl) (by kernel_rfl) (fun _ _ _ h => h) rfl hS0 (by (repeat (first | (refine slot_hit (N := 56) ?_ (by rfl); (repeat (refine sz_put ?_)); assumption; done) | (apply slot_miss; focus rfl))); all_goals assumption) rfl ?_)
    (refine wt_take3 4 40 41 42 (v := ?_) rfl rfl (by kernel_rfl) (by kernel_rfl) (by kernel_rfl) (by kernel_rfl) (fun _ _ _ h => h) rfl hS0 (by (repeat (first | (refine slot_hit (N := 56) ?_ (by rfl); (repeat (refine sz_put ?_)); assumption; done) | (apply slot_miss; focus rfl))); all_goals assumption) (by (repeat (first | (refine slot_hit (N := 56) ?_ (by rfl); (repeat (refine sz_put ?_)); assumption; done) | (apply slot_miss; focus rfl))); all_goals assumption) (by (repeat (first | (refine slot_hit (N := 56) ?_ (by rfl); (repeat (refine sz_put ?_)); assumption; done) | (apply slot_miss; focus rfl))); all_goals assumption) (fun ev hk hv0 hv1 hv2 w hS => ?_) ?_; rotate_left; focus (go_simp; first | exact hcutT _ | (rw [hcutT]; done) | (simp only [hcutT]; done) | rfl))
    (refine wt_take1 5 2 (v := ?_) rfl rfl (by kernel_rfl) (by kernel_rfl) (by kernel_rfl) (by kernel_rfl) (fun _ _ _ h => h) rfl hS0 (by (repeat (first | (refine slot_hit (N := 56) ?_ (by rfl); (repeat (refine sz_put ?_)); assumption; done) | (apply slot_miss; focus rfl))); all_goals assumption) (fun ev hk hv0 w hS => ?_) ?_; rotate_left; focus (obtain ⟨j0, j1, j2⟩ := hS; go_simp; rfl)); (refine wt_take1 6 44 (v := ?_) rfl rfl (by kernel_rfl) (by kernel_rfl) (by kernel_rfl) (by kernel_rfl) (fun _ _ _ h => h) rfl hS0 (by (repeat (first | (refine slot_hit (N := 56) ?_ (by rfl); (repeat (refine sz_put ?_)); assumption; done) | (apply slot_miss; focus rfl))); all_goals assumption) (fun ev hk hv0 w hS => ?_) ?_; rotate_left; focus (obtain ⟨j0, j1, j2⟩ := hS; go_simp; rfl)); (refine wt_move 7 1 rfl rfl (by kernel_rfl) (by kernel_rfl) (by kernel_rfl) (by kernel_rfl) (fun _ _ _ h => h) rfl hS0 (by (repeat (first | (refine slot_hit (N := 56) ?_ (by rfl); (repeat (refine sz_put ?_)); assumption; done) | (apply slot_miss; focus rfl))); all_goals assumption) rfl ?_); (refine wt_move 8 1 rfl rfl (by kernel_rfl) (by kernel_rfl) (by kernel_rfl) (by kernel_rfl) (fun _ _ _ h => h) rfl hS0 (by (repeat (first | (refine slot_hit (N := 56) ?_ (by rfl); (repeat (refine sz_put ?_)); assumption; done) | (apply slot_miss; focus rfl))); all_goals assumption) rfl ?_)
    (refine wt_take3 9 45 46 47 (v := ?_) rfl rfl (by kernel_rfl) (by kernel_rfl) (by kernel_rfl) (by kernel_rfl) (fun _ _ _ h => h) rfl hS0 (by (repeat (first | (refine slot_hit (N := 56) ?_ (by rfl); (repeat (refine sz_put ?_)); assumption; done) | (apply slot_miss; focus rfl))); all_goals assumption) (by (repeat (first | (refine slot_hit (N := 56) ?_ (by rfl); (repeat (refine sz_put ?_)); assumption; done) | (apply slot_miss; focus rfl))); all_goals assumption) (by (repeat (first | (refine slot_hit (N := 56) ?_ (by rfl); (repeat (refine sz_put ?_)); assumption; done) | (apply slot_miss; focus rfl))); all_goals assumption) (fun ev hk hv0 hv1 hv2 w hS => ?_) ?_; rotate_left; focus (go_simp; first | exact hcutS _ | (rw [hcutS]; done) | (simp only [hcutS]; done) | rfl))
    (refine wt_assign 10 43 rfl rfl (by kernel_rfl) (by kernel_rfl) (by kernel_rfl) (by kernel_rfl) (fun _ _ _ h => h) rfl hS0 (by (repeat (first | (refine slot_hit (N := 56) ?_ (by rfl); (repeat (refine sz_put ?_)); assumption; done) | (apply slot_miss; focus rfl))); all_goals assumption) rfl ?_); (refine wt_assign 11 48 rfl rfl (by kernel_rfl) (by kernel_rfl) (by kernel_rfl) (by kernel_rfl) (fun _ _ _ h => h) rfl hS0 (by (repeat (first | (refine slot_hit (N := 56) ?_ (by rfl); (repeat (refine sz_put ?_)); assumption; done) | (apply slot_miss; focus rfl))); all_goals assumption) rfl ?_)
    refine wt_known (N := 56) (by kernel_rfl) (by (repeat (refine sz_put ?_)); assumption) [(1, .int .i64 (x : Int)), (2, .pointer (some ⟨w.heap.size, 0, none⟩)), (4, .pointer (some ⟨w.heap.size + 1, 0, none⟩)), (8, .slice A' u u), (9, .slice B' x x)] ⟨(by (repeat (first | (refine slot_hit (N := 56) ?_ (by rfl); (repeat (refine sz_put ?_)); assumption; done) | (apply slot_miss; focus rfl))); all_goals assumption), (by (repeat (first | (refine slot_hit (N := 56) ?_ (by rfl); (repeat (refine sz_put ?_)); assumption; done) | (apply slot_miss; focus rfl))); all_goals assumption), (by (repeat (first | (refine slot_hit (N := 56) ?_ (by rfl); (repeat (refine sz_put ?_)); assumption; done) | (apply slot_miss; focus rfl))); all_goals assumption), (by (repeat (first | (refine slot_hit (N := 56) ?_ (by rfl); (repeat (refine sz_put ?_)); assumption; done) | (apply slot_miss; focus rfl))); all_goals assumption), (by (repeat (first | (refine slot_hit (N := 56) ?_ (by rfl); (repeat (refine sz_put ?_)); assumption; done) | (apply slot_miss; focus rfl))); all_goals assumption), trivial⟩ fun fv fl hfl => ?_; obtain rfl : fl = [fv 0, (.int .i64 (x : Int) : Value), (.pointer (some ⟨w.heap.size, 0, none⟩) : Value), fv 3, (.pointer (some ⟨w.heap.size + 1, 0, none⟩) : Value), fv 5, fv 6, fv 7, (.slice A' u u : Value), (.slice B' x x : Value), fv 10, fv 11, fv 12, fv 13, fv 14, fv 15, fv 16, fv 17, fv 18, fv 19, fv 20, fv 21, fv 22, fv 23, fv 24, fv 25, fv 26, fv 27, fv 28, fv 29, fv 30, fv 31, fv 32, fv 33, fv 34, fv 35, fv 36, fv 37, fv 38, fv 39, fv 40, fv 41, fv 42, fv 43, fv 44, fv 45, fv 46, fv 47, fv 48, fv 49, fv 50, fv 51, fv 52, fv 53, fv 54, fv 55] := hfl.symm.trans (by kernel_rfl); clear hfl
    go_wp2
    refine wp_slots (fun f => Sz f 56 ∧ Slot f 2 (.pointer (some ⟨w.heap.size, 0, none⟩)) ∧ Slot f 4 (.pointer (some ⟨w.heap.size + 1, 0, none⟩)) ∧ Slot f 8 (.slice A' u u) ∧ Slot f 9 (.slice B' x x)) ⟨⟨rfl, rfl⟩, ⟨rfl⟩, ⟨rfl⟩, ⟨rfl⟩, ⟨rfl⟩⟩ fun a0 hA0 hR => ?_
    obtain ⟨hZ, hs2, hs4, hs8, hs9⟩ := hR
    clear hA0
    refine wp_region_T (fun W : World => W.cell? ⟨w.heap.size, 0, none⟩ = some (.int .i64 v) ∧ W.cell? ⟨w.heap.size, 1, none⟩ = some (.slice A n k) ∧ W.cell? ⟨w.heap.size, 2, none⟩ = some (.slice (some ⟨b, o, none⟩) m q)) 9 (by kernel_rfl) ?_
    refine WT.h ?_
    (refine wt_take1 0 2 (v := ?_) rfl rfl (by kernel_rfl) (by kernel_rfl) (by kernel_rfl) (by kernel_rfl) (fun _ _ _ h => h) rfl hS0 (by (repeat (first | (refine slot_hit (N := 56) ?_ (by rfl); (repeat (refine sz_put ?_)); assumption; done) | (apply slot_miss; focus rfl))); all_goals assumption) (fun ev hk hv0 w hS => ?_) ?_; rotate_left; focus (obtain ⟨j0, j1, j2⟩ := hS; go_simp; rfl)); (refine wt_take1 1 49 (v := ?_) rfl rfl (by kernel_rfl) (by kernel_rfl) (by kernel_rfl) (by kernel_rfl) (fun _ _ _ h => h) rfl hS0 (by (repeat (first | (refine slot_hit (N := 56) ?_ (by rfl); (repeat (refine sz_put ?_)); assumption; done) | (apply slot_miss; focus rfl))); all_goals assumption) (fun ev hk hv0 w hS => ?_) ?_; rotate_left; focus (obtain ⟨j0, j1, j2⟩ := hS; go_simp; rfl)); (refine wt_move 2 8 rfl rfl (by kernel_rfl) (by kernel_rfl) (by kernel_rfl) (by kernel_rfl) (fun _ _ _ h => h) rfl hS0 (by (repeat (first | (refine slot_hit (N := 56) ?_ (by rfl); (repeat (refine sz_put ?_)); assumption; done) | (apply slot_miss; focus rfl))); all_goals assumption) rfl ?_); (refine wt_move 4 9 rfl rfl (by kernel_rfl) (by kernel_rfl) (by kernel_rfl) (by kernel_rfl) (fun _ _ _ h => h) rfl hS0 (by (repeat (first | (refine slot_hit (N := 56) ?_ (by rfl); (repeat (refine sz_put ?_)); assumption; done) | (apply slot_miss; focus rfl))); all_goals assumption) rfl ?_)
    refine wt_call1 3 51 (by kernel_rfl) rfl rfl rfl (by (repeat (first | (refine slot_hit (N := 56) ?_ (by rfl); (repeat (refine sz_put ?_)); assumption; done) | (apply slot_miss; focus rfl))); all_goals assumption) (f := ?_) (args := ?_) (fun ev hk hkf hv0 => ?_) ?_; rotate_left 2; focus (go_simp; first | rfl | (constructor <;> rfl))
    refine D3'.mono ?_
    rintro e w5 ⟨vT, rfl, hoT, hbT⟩
    obtain ⟨A5, k5, rfl, hI5⟩ := hoT.at
    have hH5 : Bx2 w (.int .i64 v) (.slice A n k) (.slice (some ⟨b, o, none⟩) m q) w5 := HB2.out.on (bn (below_dn (Below.refl _ _) 2) hbT)
    obtain ⟨e0, e1, e2⟩ := hH5.c
    obtain ⟨n5, hn5⟩ : ∃ n5, n5 = T.length := ⟨_, rfl⟩
    rw [← hn5] at hoT ⊢
    have HY := Lib.hid (And.intro hH5 (And.intro hoT (And.intro hI5 hn5)))
    have hS0 : (fun W : World => W.cell? ⟨w.heap.size, 0, none⟩ = some (.int .i64 v) ∧ W.cell? ⟨w.heap.size, 1, none⟩ = some (.slice A n k) ∧ W.cell? ⟨w.heap.size, 2, none⟩ = some (.slice (some ⟨b, o, none⟩) m q)) w5 := ⟨e0, e1, e2⟩
    refine ⟨_, rfl, fun _ => hS0, ?_⟩
    clear hH5 hoT hI5 hn5 hbT e0 e1 e2 D3'
    have D4' := HD4.out w5 HY.out.1.b
    refine wt_call1 5 53 (by kernel_rfl) rfl rfl rfl (by (repeat (first | (refine slot_hit (N := 56) ?_ (by rfl); (repeat (refine sz_put ?_)); assumption; done) | (apply slot_miss; focus rfl))); all_goals assumption) (f := ?_) (args := ?_) (fun ev hk hkf hv0 => ?_) ?_; rotate_left 2; focus (go_simp; first | rfl | (constructor <;> rfl))
    refine D4'.mono ?_
    rintro e w6 ⟨vS, rfl, hoS, hbS⟩
    obtain ⟨B6, q6, rfl, hI6⟩ := hoS.at
    have hH6 : Bx2 w (.int .i64 v) (.slice A n k) (.slice (some ⟨b, o, none⟩) m q) w6 := HY.out.1.on hbS
    obtain ⟨e0, e1, e2⟩ := hH6.c
    obtain ⟨d0, d1, d2, f0, f1, f2⟩ := hH6.d
    obtain ⟨m6, hm6⟩ : ∃ m6, m6 = S.length := ⟨_, rfl⟩
    rw [← hm6] at hoS ⊢
    have HZ6 := Lib.hid (And.intro hH6 (And.intro hoS (And.intro hI6 (And.intro hm6 hbS))))
    have hS0 : (fun W : World => W.cell? ⟨w.heap.size, 0, none⟩ = some (.int .i64 v) ∧ W.cell? ⟨w.heap.size, 1, none⟩ = some (.slice A n k) ∧ W.cell? ⟨w.heap.size, 2, none⟩ = some (.slice (some ⟨b, o, none⟩) m q)) w6 := ⟨e0, e1, e2⟩
    refine ⟨_, rfl, fun _ => hS0, ?_⟩
    clear hH6 hoS hI6 hm6 hbS D4'
    (refine wt_take3 6 50 52 54 (v := ?_) rfl rfl (by kernel_rfl) (by kernel_rfl) (by kernel_rfl) (by kernel_rfl) (fun _ _ _ h => h) rfl hS0 (by (repeat (first | (refine slot_hit (N := 56) ?_ (by rfl); (repeat (refine sz_put ?_)); assumption; done) | (apply slot_miss; focus rfl))); all_goals assumption) (by (repeat (first | (refine slot_hit (N := 56) ?_ (by rfl); (repeat (refine sz_put ?_)); assumption; done) | (apply slot_miss; focus rfl))); all_goals assumption) (by (repeat (first | (refine slot_hit (N := 56) ?_ (by rfl); (repeat (refine sz_put ?_)); assumption; done) | (apply slot_miss; focus rfl))); all_goals assumption) (fun ev hk hv0 hv1 hv2 w hS => ?_) ?_; rotate_left; focus (go_simp; rfl))
    refine wt_act2 7 4 55 (by kernel_rfl) rfl rfl rfl (by (repeat (first | (refine slot_hit (N := 56) ?_ (by rfl); (repeat (refine sz_put ?_)); assumption; done) | (apply slot_miss; focus rfl))); all_goals assumption) (by (repeat (first | (refine slot_hit (N := 56) ?_ (by rfl); (repeat (refine sz_put ?_)); assumption; done) | (apply slot_miss; focus rfl))); all_goals assumption) (w' := ?_) (fun ev hk hv0 hv1 => ?_) ?_; rotate_left; focus (go_simp; rfl)
    have hS0 : (fun W : World => W.cell? ⟨w.heap.size, 0, none⟩ = some (.int .i64 v) ∧ W.cell? ⟨w.heap.size, 1, none⟩ = some (.slice A n k) ∧ W.cell? ⟨w.heap.size, 2, none⟩ = some (.slice (some ⟨b, o, none⟩) m q)) (st3 w6 (w.heap.size + 1) (.int .i64 v) (.slice A5 n5 k5) (.slice B6 m6 q6)) :=
      ⟨(st3_cell (by omega) _ _ _).trans e0, (st3_cell (by omega) _ _ _).trans e1, (st3_cell (by omega) _ _ _).trans e2⟩
    have hC := st3_has HZ6.out.1.h2 (.int .i64 v) (.slice A5 n5 k5) (.slice B6 m6 q6)
    have hA5 : ∀ a, A5 = some a → a.block ≠ w.heap.size + 1 := fun a e => by
      subst e
      have := HY.out.2.1.blk a.block rfl
      have h0 : w2.drew.drew.heap.size = w2.heap.size := rfl
      have := HB2.out.z
      omega
    have hB6 : ∀ a, B6 = some a → a.block ≠ w.heap.size + 1 := fun a e => by
      subst e
      have := HZ6.out.2.1.blk a.block rfl
      have := HY.out.1.z
      omega
    have hIf : Ia (st3 w6 (w.heap.size + 1) (.int .i64 v) (.slice A5 n5 k5) (.slice B6 m6 q6)) w6.heap.size A5 T k5 := (HY.out.2.2.1.on HZ6.out.2.2.2.2).st3 hA5 _ _ _
    have hIg : Ia (st3 w6 (w.heap.size + 1) (.int .i64 v) (.slice A5 n5 k5) (.slice B6 m6 q6)) w6.heap.size B6 S q6 := HZ6.out.2.2.1.st3 hB6 _ _ _
    have hBf : Below w.heap.size w (st3 w6 (w.heap.size + 1) (.int .i64 v) (.slice A5 n5 k5) (.slice B6 m6 q6)) := st3_below HZ6.out.1.b (Nat.le_succ _) _ _ _
    have hzf : w6.heap.size = (st3 w6 (w.heap.size + 1) (.int .i64 v) (.slice A5 n5 k5) (.slice B6 m6 q6)).heap.size := by rw [st3_size]
    unfold st3 at hS0 hC hIf hIg hBf hzf
    generalize ((w6.setCell ⟨w.heap.size + 1, 0, none⟩ (.int .i64 v)).setCell ⟨w.heap.size + 1, 1, none⟩ (.slice A5 n5 k5)).setCell ⟨w.heap.size + 1, 2, none⟩ (.slice B6 m6 q6) = W7 at hS0 hC hIf hIg hBf hzf ⊢
    refine ⟨fun _ => hS0, ?_⟩
    clear f0 f1 f2 d0 d1 d2 e0 e1 e2
    (refine wt_take0 8  (v := ?_) rfl rfl (by kernel_rfl) (by kernel_rfl) (by kernel_rfl) (by kernel_rfl) (fun _ _ _ h => h) rfl hS0  (fun ev hk  w hS => ?_) ?_; rotate_left; focus (go_simp; rfl))
    refine wt_known (N := 56) (by kernel_rfl) (by (repeat (refine sz_put ?_)); assumption) [(4, .pointer (some ⟨w.heap.size + 1, 0, none⟩)), (5, .int .i64 0)] ⟨(by (repeat (first | (refine slot_hit (N := 56) ?_ (by rfl); (repeat (refine sz_put ?_)); assumption; done) | (apply slot_miss; focus rfl))); all_goals assumption), (by (repeat (first | (refine slot_hit (N := 56) ?_ (by rfl); (repeat (refine sz_put ?_)); assumption; done) | (apply slot_miss; focus rfl))); all_goals assumption), trivial⟩ fun fv fl hfl => ?_; obtain rfl : fl = [fv 0, fv 1, fv 2, fv 3, (.pointer (some ⟨w.heap.size + 1, 0, none⟩) : Value), (.int .i64 0 : Value), fv 6, fv 7, fv 8, fv 9, fv 10, fv 11, fv 12, fv 13, fv 14, fv 15, fv 16, fv 17, fv 18, fv 19, fv 20, fv 21, fv 22, fv 23, fv 24, fv 25, fv 26, fv 27, fv 28, fv 29, fv 30, fv 31, fv 32, fv 33, fv 34, fv 35, fv 36, fv 37, fv 38, fv 39, fv 40, fv 41, fv 42, fv 43, fv 44, fv 45, fv 46, fv 47, fv 48, fv 49, fv 50, fv 51, fv 52, fv 53, fv 54, fv 55] := hfl.symm.trans (by kernel_rfl); clear hfl
    have z0 : W7.cell? ⟨w.heap.size + 1, 0, none⟩ = some (.int .i64 v) := hC.cell 0
    have z1 : W7.cell? ⟨w.heap.size + 1, 1, none⟩ = some (.slice A5 n5 k5) := hC.cell 1
    have z2 : W7.cell? ⟨w.heap.size + 1, 2, none⟩ = some (.slice B6 m6 q6) := hC.cell 2
    have HF := Lib.hid (And.intro hIf (And.intro hIg (And.intro hBf hzf)))
    clear hC hIf hIg hBf hzf hS0
    go_wp2
    refine bodyPost_ret (v := .tuple #[.agg #[.int .i64 v, .slice A5 n5 k5, .slice B6 m6 q6], .int .i64 0]) (by simp [results, Try.results16, go_sem, z0, z1, z2]) rfl ?_
    exact ⟨A5, k5, B6, q6, by rw [HY.out.2.2.2, HZ6.out.2.2.2.1], HF.out.2.2.2 ▸ HF.out.1, HF.out.2.2.2 ▸ HF.out.2.1, HF.out.2.2.1, fun a e => (by subst e; have := HY.out.2.1.blk a.block rfl; have h0 : w2.drew.drew.heap.size = w2.heap.size := rfl; have := HB2.out.z; omega), fun a e => by subst e; have := HZ6.out.2.1.blk a.block rfl; have := HY.out.1.z; omega⟩
  · have ex : x = m := by omega
    have eu : u = n := by
      rw [huu]
      unfold usz
      rw [if_neg (by omega)]
    subst ex
    clear h hl hr h' hl' hn hm hE H0 hT hS hTT hSS huu first el el' hx
    subst eu
    have x2 : ¬ (x : Int) < (x : Int) := by omega
    go_enter Try.func16, Try.ntmps16
    go_wp2_with (first
      | (go_at_call 18; (with_reducible refine D1.mono ?_); rintro e w2 ⟨rfl, hb2⟩
         have H2 := HB.out.on hb2
         obtain ⟨c0, c1, c2⟩ := H2.c
         have HB2 := Lib.hid H2
         clear H2 hb2))
    obtain ⟨g0, g1, g2⟩ := HB2.out.c
    have D3' := D3 w2.drew.drew (below_dn HB2.out.b 2)
    have HD4 := Lib.hid D4
    have hS0 : (fun W : World => W.cell? ⟨w.heap.size, 0, none⟩ = some (.int .i64 v) ∧ W.cell? ⟨w.heap.size, 1, none⟩ = some (.slice A u k) ∧ W.cell? ⟨w.heap.size, 2, none⟩ = some (.slice B x q)) w2.drew := ⟨g0, g1, g2⟩
    clear D1 D3 D4 c0 c1 c2 g0 g1 g2
    refine wp_slots (fun f => Sz f 56 ∧ Slot f 1 (.int .i64 (x : Int)) ∧ Slot f 2 (.pointer (some ⟨w.heap.size, 0, none⟩)) ∧ Slot f 4 (.pointer (some ⟨w.heap.size + 1, 0, none⟩)) ∧ Slot f 7 (.int .i64 (u : Int))) ⟨⟨rfl, rfl⟩, ⟨rfl⟩, ⟨rfl⟩, ⟨rfl⟩, ⟨rfl⟩⟩ fun a0 hA0 hR => ?_
    obtain ⟨hZ, hs1, hs2, hs4, hs7⟩ := hR
    clear hA0
    refine wp_region_T (fun W : World => W.cell? ⟨w.heap.size, 0, none⟩ = some (.int .i64 v) ∧ W.cell? ⟨w.heap.size, 1, none⟩ = some (.slice A u k) ∧ W.cell? ⟨w.heap.size, 2, none⟩ = some (.slice B x q)) 12 (by kernel_rfl) ?_
    refine WT.h ?_
    (refine wt_take1 0 2 (v := ?_) rfl rfl (by kernel_rfl) (by kernel_rfl) (by kernel_rfl) (by kernel_rfl) (fun _ _ _ h => h) rfl hS0 (by (repeat (first | (refine slot_hit (N := 56) ?_ (by rfl); (repeat (refine sz_put ?_)); assumption; done) | (apply slot_miss; focus rfl))); all_goals assumption) (fun ev hk hv0 w hS => ?_) ?_; rotate_left; focus (obtain ⟨j0, j1, j2⟩ := hS; go_simp; rfl)); (refine wt_take1 1 39 (v := ?_) rfl rfl (by kernel_rfl) (by kernel_rfl) (by kernel_rfl) (by kernel_rfl) (fun _ _ _ h => h) rfl hS0 (by (repeat (first | (refine slot_hit (N := 56) ?_ (by rfl); (repeat (refine sz_put ?_)); assumption; done) | (apply slot_miss; focus rfl))); all_goals assumption) (fun ev hk hv0 w hS => ?_) ?_; rotate_left; focus (obtain ⟨j0, j1, j2⟩ := hS; go_simp; rfl)); (refine wt_move 2 7 rfl rfl (by kernel_rfl) (by kernel_rfl) (by kernel_rfl) (by kernel_rfl) (fun _ _ _ h => h) rfl hS0 (by (repeat (first | (refine slot_hit (N := 56) ?_ (by rfl); (repeat (refine sz_put ?_)); assumption; done) | (apply slot_miss; focus rfl))); all_goals assumption) rfl ?_); (refine wt_move 3 7 rfl rfl (by kernel_rfl) (by kernel_rfl) (by kernel_rfl) (by kernel_rfl) (fun _ _ _ h => h) rfl hS0 (by (repeat (first | (refine slot_hit (N := 56) ?_ (by rfl); (repeat (refine sz_put ?_)); assumption; done) | (apply slot_miss; focus rfl))); all_goals assumption) rfl ?_)
    (refine wt_take3 4 40 41 42 (v := ?_) rfl rfl (by kernel_rfl) (by kernel_rfl) (by kernel_rfl) (by kernel_rfl) (fun _ _ _ h => h) rfl hS0 (by (repeat (first | (refine slot_hit (N := 56) ?_ (by rfl); (repeat (refine sz_put ?_)); assumption; done) | (apply slot_miss; focus rfl))); all_goals assumption) (by (repeat (first | (refine slot_hit (N := 56) ?_ (by rfl); (repeat (refine sz_put ?_)); assumption; done) | (apply slot_miss; focus rfl))); all_goals assumption) (by (repeat (first | (refine slot_hit (N := 56) ?_ (by rfl); (repeat (refine sz_put ?_)); assumption; done) | (apply slot_miss; focus rfl))); all_goals assumption) (fun ev hk hv0 hv1 hv2 w hS => ?_) ?_; rotate_left; focus (go_simp; first | exact hcutT _ | (rw [hcutT]; done) | (simp only [hcutT]; done) | rfl))
    (refine wt_take1 5 2 (v := ?_) rfl rfl (by kernel_rfl) (by kernel_rfl) (by kernel_rfl) (by kernel_rfl) (fun _ _ _ h => h) rfl hS0 (by (repeat (first | (refine slot_hit (N := 56) ?_ (by rfl); (repeat (refine sz_put ?_)); assumption; done) | (apply slot_miss; focus rfl))); all_goals assumption) (fun ev hk hv0 w hS => ?_) ?_; rotate_left; focus (obtain ⟨j0, j1, j2⟩ := hS; go_simp; rfl)); (refine wt_take1 6 44 (v := ?_) rfl rfl (by kernel_rfl) (by kernel_rfl) (by kernel_rfl) (by kernel_rfl) (fun _ _ _ h => h) rfl hS0 (by (repeat (first | (refine slot_hit (N := 56) ?_ (by rfl); (repeat (refine sz_put ?_)); assumption; done) | (apply slot_miss; focus rfl))); all_goals assumption) (fun ev hk hv0 w hS => ?_) ?_; rotate_left; focus (obtain ⟨j0, j1, j2⟩ := hS; go_simp; rfl)); (refine wt_move 7 1 rfl rfl (by kernel_rfl) (by kernel_rfl) (by kernel_rfl) (by kernel_rfl) (fun _ _ _ h => h) rfl hS0 (by (repeat (first | (refine slot_hit (N := 56) ?_ (by rfl); (repeat (refine sz_put ?_)); assumption; done) | (apply slot_miss; focus rfl))); all_goals assumption) rfl ?_); (refine wt_move 8 1 rfl rfl (by kernel_rfl) (by kernel_rfl) (by kernel_rfl) (by kernel_rfl) (fun _ _ _ h => h) rfl hS0 (by (repeat (first | (refine slot_hit (N := 56) ?_ (by rfl); (repeat (refine sz_put ?_)); assumption; done) | (apply slot_miss; focus rfl))); all_goals assumption) rfl ?_)
    (refine wt_take3 9 45 46 47 (v := ?_) rfl rfl (by kernel_rfl) (by kernel_rfl) (by kernel_rfl) (by kernel_rfl) (fun _ _ _ h => h) rfl hS0 (by (repeat (first | (refine slot_hit (N := 56) ?_ (by rfl); (repeat (refine sz_put ?_)); assumption; done) | (apply slot_miss; focus rfl))); all_goals assumption) (by (repeat (first | (refine slot_hit (N := 56) ?_ (by rfl); (repeat (refine sz_put ?_)); assumption; done) | (apply slot_miss; focus rfl))); all_goals assumption) (by (repeat (first | (refine slot_hit (N := 56) ?_ (by rfl); (repeat (refine sz_put ?_)); assumption; done) | (apply slot_miss; focus rfl))); all_goals assumption) (fun ev hk hv0 hv1 hv2 w hS => ?_) ?_; rotate_left; focus (go_simp; first | exact hcutS _ | (rw [hcutS]; done) | (simp only [hcutS]; done) | rfl))
    (refine wt_assign 10 43 rfl rfl (by kernel_rfl) (by kernel_rfl) (by kernel_rfl) (by kernel_rfl) (fun _ _ _ h => h) rfl hS0 (by (repeat (first | (refine slot_hit (N := 56) ?_ (by rfl); (repeat (refine sz_put ?_)); assumption; done) | (apply slot_miss; focus rfl))); all_goals assumption) rfl ?_); (refine wt_assign 11 48 rfl rfl (by kernel_rfl) (by kernel_rfl) (by kernel_rfl) (by kernel_rfl) (fun _ _ _ h => h) rfl hS0 (by (repeat (first | (refine slot_hit (N := 56) ?_ (by rfl); (repeat (refine sz_put ?_)); assumption; done) | (apply slot_miss; focus rfl))); all_goals assumption) rfl ?_)
    refine wt_known (N := 56) (by kernel_rfl) (by (repeat (refine sz_put ?_)); assumption) [(1, .int .i64 (x : Int)), (2, .pointer (some ⟨w.heap.size, 0, none⟩)), (4, .pointer (some ⟨w.heap.size + 1, 0, none⟩)), (8, .slice A' u u), (9, .slice B' x x)] ⟨(by (repeat (first | (refine slot_hit (N := 56) ?_ (by rfl); (repeat (refine sz_put ?_)); assumption; done) | (apply slot_miss; focus rfl))); all_goals assumption), (by (repeat (first | (refine slot_hit (N := 56) ?_ (by rfl); (repeat (refine sz_put ?_)); assumption; done) | (apply slot_miss; focus rfl))); all_goals assumption), (by (repeat (first | (refine slot_hit (N := 56) ?_ (by rfl); (repeat (refine sz_put ?_)); assumption; done) | (apply slot_miss; focus rfl))); all_goals assumption), (by (repeat (first | (refine slot_hit (N := 56) ?_ (by rfl); (repeat (refine sz_put ?_)); assumption; done) | (apply slot_miss; focus rfl))); all_goals assumption), (by (repeat (first | (refine slot_hit (N := 56) ?_ (by rfl); (repeat (refine sz_put ?_)); assumption; done) | (apply slot_miss; focus rfl))); all_goals assumption), trivial⟩ fun fv fl hfl => ?_; obtain rfl : fl = [fv 0, (.int .i64 (x : Int) : Value), (.pointer (some ⟨w.heap.size, 0, none⟩) : Value), fv 3, (.pointer (some ⟨w.heap.size + 1, 0, none⟩) : Value), fv 5, fv 6, fv 7, (.slice A' u u : Value), (.slice B' x x : Value), fv 10, fv 11, fv 12, fv 13, fv 14, fv 15, fv 16, fv 17, fv 18, fv 19, fv 20, fv 21, fv 22, fv 23, fv 24, fv 25, fv 26, fv 27, fv 28, fv 29, fv 30, fv 31, fv 32, fv 33, fv 34, fv 35, fv 36, fv 37, fv 38, fv 39, fv 40, fv 41, fv 42, fv 43, fv 44, fv 45, fv 46, fv 47, fv 48, fv 49, fv 50, fv 51, fv 52, fv 53, fv 54, fv 55] := hfl.symm.trans (by kernel_rfl); clear hfl
    go_wp2
    refine wp_slots (fun f => Sz f 56 ∧ Slot f 2 (.pointer (some ⟨w.heap.size, 0, none⟩)) ∧ Slot f 4 (.pointer (some ⟨w.heap.size + 1, 0, none⟩)) ∧ Slot f 8 (.slice A' u u) ∧ Slot f 9 (.slice B' x x)) ⟨⟨rfl, rfl⟩, ⟨rfl⟩, ⟨rfl⟩, ⟨rfl⟩, ⟨rfl⟩⟩ fun a0 hA0 hR => ?_
    obtain ⟨hZ, hs2, hs4, hs8, hs9⟩ := hR
    clear hA0
    refine wp_region_T (fun W : World => W.cell? ⟨w.heap.size, 0, none⟩ = some (.int .i64 v) ∧ W.cell? ⟨w.heap.size, 1, none⟩ = some (.slice A u k) ∧ W.cell? ⟨w.heap.size, 2, none⟩ = some (.slice B x q)) 9 (by kernel_rfl) ?_
    refine WT.h ?_
    (refine wt_take1 0 2 (v := ?_) rfl rfl (by kernel_rfl) (by kernel_rfl) (by kernel_rfl) (by kernel_rfl) (fun _ _ _ h => h) rfl hS0 (by (repeat (first | (refine slot_hit (N := 56) ?_ (by rfl); (repeat (refine sz_put ?_)); assumption; done) | (apply slot_miss; focus rfl))); all_goals assumption) (fun ev hk hv0 w hS => ?_) ?_; rotate_left; focus (obtain ⟨j0, j1, j2⟩ := hS; go_simp; rfl)); (refine wt_take1 1 49 (v := ?_) rfl rfl (by kernel_rfl) (by kernel_rfl) (by kernel_rfl) (by kernel_rfl) (fun _ _ _ h => h) rfl hS0 (by (repeat (first | (refine slot_hit (N := 56) ?_ (by rfl); (repeat (refine sz_put ?_)); assumption; done) | (apply slot_miss; focus rfl))); all_goals assumption) (fun ev hk hv0 w hS => ?_) ?_; rotate_left; focus (obtain ⟨j0, j1, j2⟩ := hS; go_simp; rfl)); (refine wt_move 2 8 rfl rfl (by kernel_rfl) (by kernel_rfl) (by kernel_rfl) (by kernel_rfl) (fun _ _ _ h => h) rfl hS0 (by (repeat (first | (refine slot_hit (N := 56) ?_ (by rfl); (repeat (refine sz_put ?_)); assumption; done) | (apply slot_miss; focus rfl))); all_goals assumption) rfl ?_); (refine wt_move 4 9 rfl rfl (by kernel_rfl) (by kernel_rfl) (by kernel_rfl) (by kernel_rfl) (fun _ _ _ h => h) rfl hS0 (by (repeat (first | (refine slot_hit (N := 56) ?_ (by rfl); (repeat (refine sz_put ?_)); assumption; done) | (apply slot_miss; focus rfl))); all_goals assumption) rfl ?_)
    refine wt_call1 3 51 (by kernel_rfl) rfl rfl rfl (by (repeat (first | (refine slot_hit (N := 56) ?_ (by rfl); (repeat (refine sz_put ?_)); assumption; done) | (apply slot_miss; focus rfl))); all_goals assumption) (f := ?_) (args := ?_) (fun ev hk hkf hv0 => ?_) ?_; rotate_left 2; focus (go_simp; first | rfl | (constructor <;> rfl))
    refine D3'.mono ?_
    rintro e w5 ⟨vT, rfl, hoT, hbT⟩
    obtain ⟨A5, k5, rfl, hI5⟩ := hoT.at
    have hH5 : Bx2 w (.int .i64 v) (.slice A u k) (.slice B x q) w5 := HB2.out.on (bn (below_dn (Below.refl _ _) 2) hbT)
    obtain ⟨e0, e1, e2⟩ := hH5.c
    obtain ⟨n5, hn5⟩ : ∃ n5, n5 = T.length := ⟨_, rfl⟩
    rw [← hn5] at hoT ⊢
    have HY := Lib.hid (And.intro hH5 (And.intro hoT (And.intro hI5 hn5)))
    have hS0 : (fun W : World => W.cell? ⟨w.heap.size, 0, none⟩ = some (.int .i64 v) ∧ W.cell? ⟨w.heap.size, 1, none⟩ = some (.slice A u k) ∧ W.cell? ⟨w.heap.size, 2, none⟩ = some (.slice B x q)) w5 := ⟨e0, e1, e2⟩
    refine ⟨_, rfl, fun _ => hS0, ?_⟩
    clear hH5 hoT hI5 hn5 hbT e0 e1 e2 D3'
    have D4' := HD4.out w5 HY.out.1.b
    refine wt_call1 5 53 (by kernel_rfl) rfl rfl rfl (by (repeat (first | (refine slot_hit (N := 56) ?_ (by rfl); (repeat (refine sz_put ?_)); assumption; done) | (apply slot_miss; focus rfl))); all_goals assumption) (f := ?_) (args := ?_) (fun ev hk hkf hv0 => ?_) ?_; rotate_left 2; focus (go_simp; first | rfl | (constructor <;> rfl))
    refine D4'.mono ?_
    rintro e w6 ⟨vS, rfl, hoS, hbS⟩
    obtain ⟨B6, q6, rfl, hI6⟩ := hoS.at
    have hH6 : Bx2 w (.int .i64 v) (.slice A u k) (.slice B x q) w6 := HY.out.1.on hbS
    obtain ⟨e0, e1, e2⟩ := hH6.c
    obtain ⟨d0, d1, d2, f0, f1, f2⟩ := hH6.d
    obtain ⟨m6, hm6⟩ : ∃ m6, m6 = S.length := ⟨_, rfl⟩
    rw [← hm6] at hoS ⊢
    have HZ6 := Lib.hid (And.intro hH6 (And.intro hoS (And.intro hI6 (And.intro hm6 hbS))))
    have hS0 : (fun W : World => W.cell? ⟨w.heap.size, 0, none⟩ = some (.int .i64 v) ∧ W.cell? ⟨w.heap.size, 1, none⟩ = some (.slice A u k) ∧ W.cell? ⟨w.heap.size, 2, none⟩ = some (.slice B x q)) w6 := ⟨e0, e1, e2⟩
    refine ⟨_, rfl, fun _ => hS0, ?_⟩
    clear hH6 hoS hI6 hm6 hbS D4'
    (refine wt_take3 6 50 52 54 (v := ?_) rfl rfl (by kernel_rfl) (by kernel_rfl) (by kernel_rfl) (by kernel_rfl) (fun _ _ _ h => h) rfl hS0 (by (repeat (first | (refine slot_hit (N := 56) ?_ (by rfl); (repeat (refine sz_put ?_)); assumption; done) | (apply slot_miss; focus rfl))); all_goals assumption) (by (repeat (first | (refine slot_hit (N := 56) ?_ (by rfl); (repeat (refine sz_put ?_)); assumption; done) | (apply slot_miss; focus rfl))); all_goals assumption) (by (repeat (first | (refine slot_hit (N := 56) ?_ (by rfl); (repeat (refine sz_put ?_)); assumption; done) | (apply slot_miss; focus rfl))); all_goals assumption) (fun ev hk hv0 hv1 hv2 w hS => ?_) ?_; rotate_left; focus (go_simp; rfl))
    refine wt_act2 7 4 55 (by kernel_rfl) rfl rfl rfl (by (repeat (first | (refine slot_hit (N := 56) ?_ (by rfl); (repeat (refine sz_put ?_)); assumption; done) | (apply slot_miss; focus rfl))); all_goals assumption) (by (repeat (first | (refine slot_hit (N := 56) ?_ (by rfl); (repeat (refine sz_put ?_)); assumption; done) | (apply slot_miss; focus rfl))); all_goals assumption) (w' := ?_) (fun ev hk hv0 hv1 => ?_) ?_; rotate_left; focus (go_simp; rfl)
    have hS0 : (fun W : World => W.cell? ⟨w.heap.size, 0, none⟩ = some (.int .i64 v) ∧ W.cell? ⟨w.heap.size, 1, none⟩ = some (.slice A u k) ∧ W.cell? ⟨w.heap.size, 2, none⟩ = some (.slice B x q)) (st3 w6 (w.heap.size + 1) (.int .i64 v) (.slice A5 n5 k5) (.slice B6 m6 q6)) :=
      ⟨(st3_cell (by omega) _ _ _).trans e0, (st3_cell (by omega) _ _ _).trans e1, (st3_cell (by omega) _ _ _).trans e2⟩
    have hC := st3_has HZ6.out.1.h2 (.int .i64 v) (.slice A5 n5 k5) (.slice B6 m6 q6)
    have hA5 : ∀ a, A5 = some a → a.block ≠ w.heap.size + 1 := fun a e => by
      subst e
      have := HY.out.2.1.blk a.block rfl
      have h0 : w2.drew.drew.heap.size = w2.heap.size := rfl
      have := HB2.out.z
      omega
    have hB6 : ∀ a, B6 = some a → a.block ≠ w.heap.size + 1 := fun a e => by
      subst e
      have := HZ6.out.2.1.blk a.block rfl
      have := HY.out.1.z
      omega
    have hIf : Ia (st3 w6 (w.heap.size + 1) (.int .i64 v) (.slice A5 n5 k5) (.slice B6 m6 q6)) w6.heap.size A5 T k5 := (HY.out.2.2.1.on HZ6.out.2.2.2.2).st3 hA5 _ _ _
    have hIg : Ia (st3 w6 (w.heap.size + 1) (.int .i64 v) (.slice A5 n5 k5) (.slice B6 m6 q6)) w6.heap.size B6 S q6 := HZ6.out.2.2.1.st3 hB6 _ _ _
    have hBf : Below w.heap.size w (st3 w6 (w.heap.size + 1) (.int .i64 v) (.slice A5 n5 k5) (.slice B6 m6 q6)) := st3_below HZ6.out.1.b (Nat.le_succ _) _ _ _
    have hzf : w6.heap.size = (st3 w6 (w.heap.size + 1) (.int .i64 v) (.slice A5 n5 k5) (.slice B6 m6 q6)).heap.size := by rw [st3_size]
    unfold st3 at hS0 hC hIf hIg hBf hzf
    generalize ((w6.setCell ⟨w.heap.size + 1, 0, none⟩ (.int .i64 v)).setCell ⟨w.heap.size + 1, 1, none⟩ (.slice A5 n5 k5)).setCell ⟨w.heap.size + 1, 2, none⟩ (.slice B6 m6 q6) = W7 at hS0 hC hIf hIg hBf hzf ⊢
    refine ⟨fun _ => hS0, ?_⟩
    clear f0 f1 f2 d0 d1 d2 e0 e1 e2
    (refine wt_take0 8  (v := ?_) rfl rfl (by kernel_rfl) (by kernel_rfl) (by kernel_rfl) (by kernel_rfl) (fun _ _ _ h => h) rfl hS0  (fun ev hk  w hS => ?_) ?_; rotate_left; focus (go_simp; rfl))
    refine wt_known (N := 56) (by kernel_rfl) (by (repeat (refine sz_put ?_)); assumption) [(4, .pointer (some ⟨w.heap.size + 1, 0, none⟩)), (5, .int .i64 0)] ⟨(by (repeat (first | (refine slot_hit (N := 56) ?_ (by rfl); (repeat (refine sz_put ?_)); assumption; done) | (apply slot_miss; focus rfl))); all_goals assumption), (by (repeat (first | (refine slot_hit (N := 56) ?_ (by rfl); (repeat (refine sz_put ?_)); assumption; done) | (apply slot_miss; focus rfl))); all_goals assumption), trivial⟩ fun fv fl hfl => ?_; obtain rfl : fl = [fv 0, fv 1, fv 2, fv 3, (.pointer (some ⟨w.heap.size + 1, 0, none⟩) : Value), (.int .i64 0 : Value), fv 6, fv 7, fv 8, fv 9, fv 10, fv 11, fv 12, fv 13, fv 14, fv 15, fv 16, fv 17, fv 18, fv 19, fv 20, fv 21, fv 22, fv 23, fv 24, fv 25, fv 26, fv 27, fv 28, fv 29, fv 30, fv 31, fv 32, fv 33, fv 34, fv 35, fv 36, fv 37, fv 38, fv 39, fv 40, fv 41, fv 42, fv 43, fv 44, fv 45, fv 46, fv 47, fv 48, fv 49, fv 50, fv 51, fv 52, fv 53, fv 54, fv 55] := hfl.symm.trans (by kernel_rfl); clear hfl
    have z0 : W7.cell? ⟨w.heap.size + 1, 0, none⟩ = some (.int .i64 v) := hC.cell 0
    have z1 : W7.cell? ⟨w.heap.size + 1, 1, none⟩ = some (.slice A5 n5 k5) := hC.cell 1
    have z2 : W7.cell? ⟨w.heap.size + 1, 2, none⟩ = some (.slice B6 m6 q6) := hC.cell 2
    have HF := Lib.hid (And.intro hIf (And.intro hIg (And.intro hBf hzf)))
    clear hC hIf hIg hBf hzf hS0
    go_wp2
    refine bodyPost_ret (v := .tuple #[.agg #[.int .i64 v, .slice A5 n5 k5, .slice B6 m6 q6], .int .i64 0]) (by simp [results, Try.results16, go_sem, z0, z1, z2]) rfl ?_
    exact ⟨A5, k5, B6, q6, by rw [HY.out.2.2.2, HZ6.out.2.2.2.1], HF.out.2.2.2 ▸ HF.out.1, HF.out.2.2.2 ▸ HF.out.2.1, HF.out.2.2.1, fun a e => (by subst e; have := HY.out.2.1.blk a.block rfl; have h0 : w2.drew.drew.heap.size = w2.heap.size := rfl; have := HB2.out.z; omega), fun a e => by subst e; have := HZ6.out.2.1.blk a.block rfl; have := HY.out.1.z; omega⟩

theorem undo_any (v : Int) (A : Option Addr) (t : List Int) (k : Nat) (B : Option Addr) (s : List Int) (q : Nat) (x : Int) (w : World) (h : Ia w w.heap.size A t k) (hl : t.length ≤ 100000) (hr : ∀ x ∈ t, I64 x) (h' : Ia w w.heap.size B s q) (hl' : s.length ≤ 100000) :
    Calls Try.prog 16 #[asv v A t.length k B s.length q, .int .i64 x] w (AsIs (uV v t s x) (uT v t s x) (uS v t s x) (uE v t s x) w) := by
  by_cases hE : OkA v t s
  · by_cases hx : x < 0 ∨ (s.length : Int) < x
    · have e0 : uE v t s x = 2 := by unfold uE; rw [if_pos hE, if_pos hx]
      obtain ⟨p1, p2, p3⟩ := u_no (v := v) (t := t) (s := s) (lv := x) (by rw [e0]; decide)
      rw [p1, p2, p3, e0]
      exact (undo_arg v A t k B s q x w h hl hr h' hl' hE hx).mono fun e w' ⟨h1, h2⟩ => (OwIs.none h1 h2).as
    · have e0 : uE v t s x = 0 := uE_0.2 ⟨hE, by omega, by omega⟩
      obtain ⟨p1, p2, p3⟩ := u_yes e0
      rw [p1, p2, p3, e0]
      obtain ⟨y, rfl⟩ : ∃ y : Nat, x = y := ⟨x.toNat, by omega⟩
      rw [Int.toNat_natCast]
      exact undo_yes v A t k B s q y w h hl hr h' hl' hE (by omega)
  · have e0 : uE v t s x = 8 := by unfold uE; rw [if_neg hE]
    obtain ⟨p1, p2, p3⟩ := u_no (v := v) (t := t) (s := s) (lv := x) (by rw [e0]; decide)
    rw [p1, p2, p3, e0]
    exact (undo_bad v A t k B s q x w h hl hr h' hl' hE).mono fun e w' ⟨h1, h2⟩ => (OwIs.none h1 h2).as

end Go.Proofs.Ytcmdongdjacgbaa
