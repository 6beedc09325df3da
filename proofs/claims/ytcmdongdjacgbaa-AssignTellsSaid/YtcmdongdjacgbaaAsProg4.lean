/- The contracts of assign.Imply, Decide. -/
import Derived.Test.YtcmdongdjacgbaaAsProg3
namespace Go.Proofs.Ytcmdongdjacgbaa
open Go Go.RowKit Go.Lib Go.Sort
set_option linter.unusedVariables false
set_option linter.unusedSimpArgs false

theorem st3_cell {W : World} {b g j : Nat} (h : g ≠ b) (v0 v1 v2 : Value) : (st3 W b v0 v1 v2).cell? ⟨g, j, none⟩ = W.cell? ⟨g, j, none⟩ := by
  rw [World.cell?_setCell_other _ _ _ _ (by simp [h]), World.cell?_setCell_other _ _ _ _ (by simp [h]), World.cell?_setCell_other _ _ _ _ (by simp [h])]
theorem st3_has {W : World} {b : Nat} {ty : TypeId} {u0 u1 u2 : Value} (h : Has W b ty #[u0, u1, u2]) (v0 v1 v2 : Value) : Has (st3 W b v0 v1 v2) b ty #[v0, v1, v2] := by
  have := ((h.set 0 v0).set 1 v1).set 2 v2
  simpa using this
theorem Io.of_own {B : Nat} {w : World} {v : Value} {n : Nat} {xs : List Value} {l : List Int} (h : w.ownsRow B 3 1 v n xs) (hn : n = l.length) (hx : xs = iC l) : Io B w v l := Io.mk h hn hx
/-- append of a number to a list without room behind it, at an operation -/
theorem append_full {w : World} {ops : Array Oper} {rest : List Oper} {o : Oper} {a : Act} {Q : Exit → Act → World → Prop} (hgd : o.guard = none) (s x : Operand)
    (ho : o.op = .call { callee := .builtin .append, args := #[s, x], argTypes := #[22, 22] })
    {A : Option Addr} {l : List Int} {n : Nat} {y : Int} (hn : n = l.length) (hs : a.eval s = .slice A n n) (h : Ia w w.heap.size A l n) (hl : n ≤ 100000) (hx : a.eval x = .slice (some ⟨w.heap.size, 0, none⟩) 1 1)
    (hK : ∀ v' w', Io (w.heap.size + 1) w' v' (l ++ [y]) → Below w.heap.size w w' → w.heap.size + 1 ≤ w'.heap.size → wpList Try.prog ops Q rest (a.put o.dst v') w') :
    wpList Try.prog ops Q (o :: rest) a (w.alloc (.cells #[.int .i64 y] 3)) := by
  obtain ⟨i0, hi0, hzz0, hs0, hy0⟩ := info_parts info_int
  have h1 : Ia (w.alloc (.cells #[.int .i64 y] 3)) (w.alloc (.cells #[.int .i64 y] 3)).heap.size A l n := h.on (bx_on _ _)
  have hsz : (w.alloc (.cells #[.int .i64 y] 3)).heap.size = w.heap.size + 1 := World.size_alloc _ _
  refine wpList_append_grows (w.alloc (.cells #[.int .i64 y] 3)) hgd s x 22 ho 3 i0 (.int .i64 0) 1 8 Try.underlying22 hi0 hzz0 hs0 hy0 rfl (by decide) A n n (iC l) hs (fun e => by obtain ⟨rfl, h3⟩ := h.n e; exact ⟨h3, h3⟩) (by rw [iC_len, hn]) (fun b hb j u hu => ?_) ⟨w.heap.size, 0, none⟩ 1 1 (iC [y]) hx rfl (cell_one_new w (.int .i64 y) 3) (iC_one [y]) (by omega) (by simp only [maxLen]; omega) (by omega) ?_
  · subst hb
    have hj : j < l.length := by
      have := (List.getElem?_eq_some_iff.1 hu).1
      rw [iC_len] at this
      omega
    rw [iC_at l j hj] at hu
    obtain ⟨a', e, _, hc⟩ := h1.h (by omega)
    injection e with e
    rw [e]
    exact (hc j hj).trans hu
  · intro v' w' ho' hg
    rw [hsz] at ho'
    have hB := (Below.refl w.heap.size (w.alloc (.cells #[.int .i64 y] 3))).grown hg (by omega) (fun k hk => by cases hk)
    refine hK v' w' (Io.mk ho' (by rw [List.length_append, hn]; rfl) (by rw [iC_app])) ((bx_on _ _).trans hB) ?_
    have := hg.size
    omega

set_option maxRecDepth 100000 in
set_option maxHeartbeats 4000000 in
theorem imply_yes (v : Int) (A : Option Addr) (t : List Int) (k : Nat) (B : Option Addr) (s : List Int) (q : Nat) (x : Int) (w : World) (h : Ia w w.heap.size A t k) (hl : t.length ≤ 100000) (hr : ∀ x ∈ t, I64 x) (h' : Ia w w.heap.size B s q) (hl' : s.length ≤ 100000) (hx : I64 x) (hE : wE v t s x = 0) (hin : vin t x = false) :
    Calls Try.prog 10 #[asv v A t.length k B s.length q, .int .i64 x] w (OwIs v (t ++ [x]) s 0 w) := by
  have H0 := Bx2.new w (.int .i64 v) (.slice A t.length k) (.slice B s.length q)
  have D1 := checkWith_any v A t k B s q x (bx2 w (.int .i64 v) (.slice A t.length k) (.slice B s.length q)) (h.on H0.b) hl hr (h'.on H0.b) hl' hx
  unfold bx2 at D1
  obtain ⟨hO, hL⟩ := wE_0.1 hE
  have D2 := fun (W : World) (hb : Below w.heap.size w W) => place_any v (by have := hO.1; omega) A t k x W (h.on hb) hl hO.2.1 hL
  rw [plc_no hO.2.1 hin] at D2
  have D3 := fun (W : World) (hb : Below w.heap.size w W) => clone_any B s q W (h'.on hb) hl'
  obtain ⟨A', hcut, hI'⟩ := h.cap t.length (Nat.le_refl _)
  rw [List.take_length] at hI'
  rw [hE] at D1
  obtain ⟨n, hn⟩ : ∃ n, n = t.length := ⟨_, rfl⟩
  obtain ⟨m, hm⟩ : ∃ m, m = s.length := ⟨_, rfl⟩
  rw [← hn] at H0 D1 D2 hcut hI' ⊢
  rw [← hm] at H0 D1 D3 ⊢
  have HB := Lib.hid H0
  have HI := Lib.hid (And.intro hn (And.intro hI' (show n ≤ 100000 by omega)))
  clear h hl hr h' hl' hx hm hn hE H0 hO hL hin hI'
  go_enter Try.func10, Try.ntmps10
  go_wp2_with (first
    | (go_at_call 25; (with_reducible refine D1.mono ?_); rintro e w2 ⟨rfl, hb2⟩
       have H2 := HB.out.on hb2
       obtain ⟨c0, c1, c2⟩ := H2.c
       have HB2 := Lib.hid H2
       clear H2 hb2)
    | (go_at_call 26; (with_reducible refine (D2 _ HB2.out.b).mono ?_); rintro e w3 ⟨rfl, hb3⟩
       have H3 := HB2.out.on hb3
       obtain ⟨d0, d1, d2⟩ := H3.c
       have HB3 := Lib.hid H3
       clear H3 hb3)
    | (at_builtin; (refine append_full rfl (.tmp 29) (.tmp 31) rfl (l := t) (n := n) (y := x) HI.out.1 rfl (HI.out.2.1.on HB3.out.b) HI.out.2.2 rfl ?_); intro v4 w4 ho4 hb4 hz4))
  obtain ⟨A4, k4, rfl, hI4⟩ := ho4.at
  have hA4 : ∀ a, A4 = some a → a.block ≠ w.heap.size + 1 := fun a e => by
    subst e
    have := ho4.blk a.block rfl
    have := HB3.out.z
    omega
  have hA5 : ∀ a, A4 = some a → w.heap.size ≤ a.block := fun a e => by
    subst e
    have := ho4.blk a.block rfl
    have := HB3.out.z
    omega
  have H4 := HB3.out.on hb4
  obtain ⟨g0, _, g2⟩ := H4.c
  have D3' := D3 w4.drew (below_dn H4.b 1)
  obtain ⟨n4, hn4⟩ : ∃ n4, n4 = (t ++ [x]).length := ⟨_, rfl⟩
  rw [← hn4]
  have HX := Lib.hid (And.intro hI4 (And.intro hA4 (And.intro H4 (And.intro hn4 hA5))))
  clear ho4 hA4 hA5 H4 hI4 hb4 c0 c1 c2 d0 d1 d2 D1 D2 D3 hcut hn4 hz4
  have hS0 : (fun W : World => W.cell? ⟨w.heap.size, 0, none⟩ = some (.int .i64 v) ∧ W.cell? ⟨w.heap.size, 2, none⟩ = some (.slice B m q)) w4.drew := ⟨g0, g2⟩
  refine wp_slots (fun f => Sz f 40 ∧ Slot f 2 (.pointer (some ⟨w.heap.size, 0, none⟩)) ∧ Slot f 4 (.pointer (some ⟨w.heap.size + 1, 0, none⟩)) ∧ Slot f 8 (.slice A4 n4 k4)) ⟨⟨rfl, rfl⟩, ⟨rfl⟩, ⟨rfl⟩, ⟨rfl⟩⟩ fun a0 hA0 hR => ?_
  obtain ⟨hZ, hs2, hs4, hs8⟩ := hR
  clear hA0
  refine wp_region_T (fun W : World => W.cell? ⟨w.heap.size, 0, none⟩ = some (.int .i64 v) ∧ W.cell? ⟨w.heap.size, 2, none⟩ = some (.slice B m q)) 9 (by kernel_rfl) ?_
  refine WT.h ?_
  (refine wt_take1 0 2 (v := ?_) rfl rfl (by kernel_rfl) (by kernel_rfl) (by kernel_rfl) (by kernel_rfl) (fun _ _ _ h => h) rfl hS0 (by (repeat (first | (refine slot_hit (N := 40) ?_ (by rfl); (repeat (refine sz_put ?_)); assumption; done) | (apply slot_miss; focus rfl))); all_goals assumption) (fun ev hk hv0 w hS => ?_) ?_; rotate_left; focus (obtain ⟨j0, j2⟩ := hS; go_simp; rfl)); (refine wt_take1 1 33 (v := ?_) rfl rfl (by kernel_rfl) (by kernel_rfl) (by kernel_rfl) (by kernel_rfl) (fun _ _ _ h => h) rfl hS0 (by (repeat (first | (refine slot_hit (N := 40) ?_ (by rfl); (repeat (refine sz_put ?_)); assumption; done) | (apply slot_miss; focus rfl))); all_goals assumption) (fun ev hk hv0 w hS => ?_) ?_; rotate_left; focus (obtain ⟨j0, j2⟩ := hS; go_simp; rfl)); (refine wt_move 2 8 rfl rfl (by kernel_rfl) (by kernel_rfl) (by kernel_rfl) (by kernel_rfl) (fun _ _ _ h => h) rfl hS0 (by (repeat (first | (refine slot_hit (N := 40) ?_ (by rfl); (repeat (refine sz_put ?_)); assumption; done) | (apply slot_miss; focus rfl))); all_goals assumption) rfl ?_); (refine wt_take1 3 2 (v := ?_) rfl rfl (by kernel_rfl) (by kernel_rfl) (by kernel_rfl) (by kernel_rfl) (fun _ _ _ h => h) rfl hS0 (by (repeat (first | (refine slot_hit (N := 40) ?_ (by rfl); (repeat (refine sz_put ?_)); assumption; done) | (apply slot_miss; focus rfl))); all_goals assumption) (fun ev hk hv0 w hS => ?_) ?_; rotate_left; focus (obtain ⟨j0, j2⟩ := hS; go_simp; rfl)); (refine wt_take1 4 36 (v := ?_) rfl rfl (by kernel_rfl) (by kernel_rfl) (by kernel_rfl) (by kernel_rfl) (fun _ _ _ h => h) rfl hS0 (by (repeat (first | (refine slot_hit (N := 40) ?_ (by rfl); (repeat (refine sz_put ?_)); assumption; done) | (apply slot_miss; focus rfl))); all_goals assumption) (fun ev hk hv0 w hS => ?_) ?_; rotate_left; focus (obtain ⟨j0, j2⟩ := hS; go_simp; rfl))
  refine wt_call1 5 37 (by kernel_rfl) rfl rfl rfl (by (repeat (first | (refine slot_hit (N := 40) ?_ (by rfl); (repeat (refine sz_put ?_)); assumption; done) | (apply slot_miss; focus rfl))); all_goals assumption) (f := ?_) (args := ?_) (fun ev hk hkf hv0 => ?_) ?_; rotate_left 2; focus (go_simp; first | rfl | (constructor <;> rfl))
  refine D3'.mono ?_
  rintro e w5 ⟨vS, rfl, hoS, hbS⟩
  have H5 := HX.out.2.2.1.on (bn (below_dn (Below.refl _ _) 1) hbS)
  obtain ⟨e0, _, e2⟩ := H5.c
  obtain ⟨d0, d1, d2, f0, f1, f2⟩ := H5.d
  obtain ⟨A5, k5, rfl, _⟩ := hoS.at
  obtain ⟨m5, hm5⟩ : ∃ m5, m5 = s.length := ⟨_, rfl⟩
  rw [← hm5] at hoS ⊢
  have HY := Lib.hid (And.intro H5 (And.intro hoS hbS))
  have hS0 : (fun W : World => W.cell? ⟨w.heap.size, 0, none⟩ = some (.int .i64 v) ∧ W.cell? ⟨w.heap.size, 2, none⟩ = some (.slice B m q)) w5 := ⟨e0, e2⟩
  refine ⟨_, rfl, fun _ => hS0, ?_⟩
  clear H5 hoS hbS hm5
  (refine wt_take3 6 34 35 38 (v := ?_) rfl rfl (by kernel_rfl) (by kernel_rfl) (by kernel_rfl) (by kernel_rfl) (fun _ _ _ h => h) rfl hS0 (by (repeat (first | (refine slot_hit (N := 40) ?_ (by rfl); (repeat (refine sz_put ?_)); assumption; done) | (apply slot_miss; focus rfl))); all_goals assumption) (by (repeat (first | (refine slot_hit (N := 40) ?_ (by rfl); (repeat (refine sz_put ?_)); assumption; done) | (apply slot_miss; focus rfl))); all_goals assumption) (by (repeat (first | (refine slot_hit (N := 40) ?_ (by rfl); (repeat (refine sz_put ?_)); assumption; done) | (apply slot_miss; focus rfl))); all_goals assumption) (fun ev hk hv0 hv1 hv2 w hS => ?_) ?_; rotate_left; focus (obtain ⟨j0, j2⟩ := hS; go_simp; rfl))
  refine wt_act2 7 4 39 (by kernel_rfl) rfl rfl rfl (by (repeat (first | (refine slot_hit (N := 40) ?_ (by rfl); (repeat (refine sz_put ?_)); assumption; done) | (apply slot_miss; focus rfl))); all_goals assumption) (by (repeat (first | (refine slot_hit (N := 40) ?_ (by rfl); (repeat (refine sz_put ?_)); assumption; done) | (apply slot_miss; focus rfl))); all_goals assumption) (w' := ?_) (fun ev hk hv0 hv1 => ?_) ?_; rotate_left; focus (go_simp; rfl)
  have hS0 : (fun W : World => W.cell? ⟨w.heap.size, 0, none⟩ = some (.int .i64 v) ∧ W.cell? ⟨w.heap.size, 2, none⟩ = some (.slice B m q)) (st3 w5 (w.heap.size + 1) (.int .i64 v) (.slice A4 n4 k4) (.slice A5 m5 k5)) :=
    ⟨(st3_cell (by omega) _ _ _).trans e0, (st3_cell (by omega) _ _ _).trans e2⟩
  have hC := st3_has HY.out.1.h2 (.int .i64 v) (.slice A4 n4 k4) (.slice A5 m5 k5)
  have hIf : Ia (st3 w5 (w.heap.size + 1) (.int .i64 v) (.slice A4 n4 k4) (.slice A5 m5 k5)) w4.heap.size A4 (t ++ [x]) k4 := (HX.out.1.keep (bn (below_dn (Below.refl _ _) 1) HY.out.2.2)).st3 HX.out.2.1 _ _ _
  have hOf : Io w4.heap.size (st3 w5 (w.heap.size + 1) (.int .i64 v) (.slice A4 n4 k4) (.slice A5 m5 k5)) (.slice A5 m5 k5) s := HY.out.2.1.st3 (by have := HX.out.2.2.1.z; simp only [World.drew, World.drewN] at *; omega) _ _ _
  have hBf : Below w.heap.size w (st3 w5 (w.heap.size + 1) (.int .i64 v) (.slice A4 n4 k4) (.slice A5 m5 k5)) := st3_below HY.out.1.b (Nat.le_succ _) _ _ _
  have hzf : w4.heap.size ≤ (st3 w5 (w.heap.size + 1) (.int .i64 v) (.slice A4 n4 k4) (.slice A5 m5 k5)).heap.size := by rw [st3_size]; exact HY.out.2.2.size
  unfold st3 at hS0 hC hIf hOf hBf hzf
  generalize ((w5.setCell ⟨w.heap.size + 1, 0, none⟩ (.int .i64 v)).setCell ⟨w.heap.size + 1, 1, none⟩ (.slice A4 n4 k4)).setCell ⟨w.heap.size + 1, 2, none⟩ (.slice A5 m5 k5) = W6 at hS0 hC hIf hOf hBf hzf ⊢
  refine ⟨fun _ => hS0, ?_⟩
  clear f0 f1 f2 d0 d1 d2 e0 e2 g0 g2
  (refine wt_take0 8  (v := ?_) rfl rfl (by kernel_rfl) (by kernel_rfl) (by kernel_rfl) (by kernel_rfl) (fun _ _ _ h => h) rfl hS0  (fun ev hk  w hS => ?_) ?_; rotate_left; focus (go_simp; rfl))
  refine wt_known (N := 40) (by kernel_rfl) (by (repeat (refine sz_put ?_)); assumption) [(4, .pointer (some ⟨w.heap.size + 1, 0, none⟩)), (5, .int .i64 0)] ⟨(by (repeat (first | (refine slot_hit (N := 40) ?_ (by rfl); (repeat (refine sz_put ?_)); assumption; done) | (apply slot_miss; focus rfl))); all_goals assumption), (by (repeat (first | (refine slot_hit (N := 40) ?_ (by rfl); (repeat (refine sz_put ?_)); assumption; done) | (apply slot_miss; focus rfl))); all_goals assumption), trivial⟩ fun fv fl hfl => ?_; obtain rfl : fl = [fv 0, fv 1, fv 2, fv 3, (.pointer (some ⟨w.heap.size + 1, 0, none⟩) : Value), (.int .i64 0 : Value), fv 6, fv 7, fv 8, fv 9, fv 10, fv 11, fv 12, fv 13, fv 14, fv 15, fv 16, fv 17, fv 18, fv 19, fv 20, fv 21, fv 22, fv 23, fv 24, fv 25, fv 26, fv 27, fv 28, fv 29, fv 30, fv 31, fv 32, fv 33, fv 34, fv 35, fv 36, fv 37, fv 38, fv 39] := hfl.symm.trans (by kernel_rfl); clear hfl
  have z0 : W6.cell? ⟨w.heap.size + 1, 0, none⟩ = some (.int .i64 v) := hC.cell 0
  have z1 : W6.cell? ⟨w.heap.size + 1, 1, none⟩ = some (.slice A4 n4 k4) := hC.cell 1
  have z2 : W6.cell? ⟨w.heap.size + 1, 2, none⟩ = some (.slice A5 m5 k5) := hC.cell 2
  have HF := Lib.hid (And.intro hIf (And.intro hOf (And.intro hBf hzf)))
  clear hC hIf hOf hBf hzf hS0
  go_wp2
  refine bodyPost_ret (v := .tuple #[.agg #[.int .i64 v, .slice A4 n4 k4, .slice A5 m5 k5], .int .i64 0]) (by simp [results, Try.results10, go_sem, z0, z1, z2]) rfl ?_
  exact ⟨A4, k4, .slice A5 m5 k5, w4.heap.size, by rw [HX.out.2.2.2.1], HF.out.1, HF.out.2.1, HX.out.2.2.1.b.size, HF.out.2.2.2, HF.out.2.2.1, HX.out.2.2.2.2⟩

theorem imply_any (v : Int) (A : Option Addr) (t : List Int) (k : Nat) (B : Option Addr) (s : List Int) (q : Nat) (x : Int) (w : World) (h : Ia w w.heap.size A t k) (hl : t.length ≤ 100000) (hr : ∀ x ∈ t, I64 x) (h' : Ia w w.heap.size B s q) (hl' : s.length ≤ 100000) (hx : I64 x) :
    Calls Try.prog 10 #[asv v A t.length k B s.length q, .int .i64 x] w (OwIs (pV v t s x) (pT v t s x) (pS v t s x false) (pE v t s x) w) := by
  by_cases hE : wE v t s x = 0
  · obtain ⟨hO, hL⟩ := wE_0.1 hE
    cases hin : vin t x with
    | false =>
      have e0 : pE v t s x = 0 := pE_0.2 ⟨hO, hL, hin⟩
      obtain ⟨p1, p2, p3, p4⟩ := p_yes e0
      rw [p1, p2, p4, e0]
      exact imply_yes v A t k B s q x w h hl hr h' hl' hx hE hin
    | true =>
      have e0 : pE v t s x = 18 := by unfold pE; rw [if_pos hO, if_pos hL, hin]; rfl
      obtain ⟨p1, p2, p3⟩ := p_no (v := v) (t := t) (s := s) (x := x) (d := false) (by rw [e0]; decide)
      rw [p1, p2, p3, e0]
      exact (imply_full v A t k B s q x w h hl hr h' hl' hx hE hin).mono fun e w' ⟨h1, h2⟩ => OwIs.none h1 h2
  · have e0 := pE_w hE
    obtain ⟨p1, p2, p3⟩ := p_no (v := v) (t := t) (s := s) (x := x) (d := false) (by rw [e0]; exact hE)
    rw [p1, p2, p3, e0]
    exact (imply_no v A t k B s q x w h hl hr h' hl' hx hE).mono fun e w' ⟨h1, h2⟩ => OwIs.none h1 h2

/-- append to what a call owns; what else it leaves -/
theorem io_run_g {w : World} (B : Nat) (v : Value) (l : List Int) (hown : Io B w v l) (y : Int) (hle : l.length ≤ 1000000) (hB : B ≤ w.heap.size) (ty : TypeId) :
    ∃ v' w', (Builtin.append_ #[22, 22] ty #[v, .slice (some ⟨w.heap.size, 0, none⟩) 1 1]).run Try.prog (w.alloc (.cells #[.int .i64 y] 3)) = .ok v' w' ∧ Io B w' v' (l ++ [y]) ∧ Below B w w' ∧
      (∀ g, g < w.heap.size → v.ownBlock ≠ some g → w'.heap[g]? = w.heap[g]?) ∧ w.heap.size ≤ w'.heap.size ∧ ∀ k, v'.ownBlock = some k → v.ownBlock = some k ∨ w.heap.size < k := by
  obtain ⟨i0, hi0, hzz0, hs0, hy0⟩ := info_parts info_int
  have ho1 : Io B (w.alloc (.cells #[.int .i64 y] 3)) v l := hown.keep (bx_on _ _)
  have hsz : (w.alloc (.cells #[.int .i64 y] 3)).heap.size = w.heap.size + 1 := World.size_alloc _ _
  obtain ⟨v', w', hr, h2, h3, _, h5⟩ := run_append_own_at (P := Try.prog) (w.alloc (.cells #[.int .i64 y] 3)) B 22 ty 3 i0 (.int .i64 0) 1 8 Try.underlying22 hi0 hzz0 hs0 hy0 rfl (by decide) v l.length (iC l) ho1 ⟨w.heap.size, 0, none⟩ 1 1 (iC [y]) rfl (cell_one_new w (.int .i64 y) 3) (iC_one [y]) (by simp only [maxLen]; omega) (by omega) (by omega)
  refine ⟨v', w', hr, Io.mk h2 (by rw [List.length_append]; rfl) (by rw [iC_app]), ((Below.refl B w).alloc hB _).grown h3 (by omega) (fun k hk => hown.blk k hk), fun g hg hne => ?_, ?_, fun k hk => ?_⟩
  · rw [h3.block g (by omega) (fun e => hne e.symm), Below.heap_alloc _ _ _ hg]
  · have := h3.size; omega
  · rcases h5 with h5 | h5
    · exact Or.inl (h5 ▸ hk)
    · rw [h5, hsz] at hk
      injection hk with hk
      exact Or.inr (by omega)
theorem append_own1 {w : World} {ops : Array Oper} {rest : List Oper} {o : Oper} {a : Act} {Q : Exit → Act → World → Prop} (hgd : o.guard = none) (s x : Operand)
    (ho : o.op = .call { callee := .builtin .append, args := #[s, x], argTypes := #[22, 22] })
    (B : Nat) (v : Value) (l : List Int) (y : Int) (hs : a.eval s = v) (hown : Io B w v l) (hle : l.length ≤ 1000000) (hB : B ≤ w.heap.size) (N : Nat) (hN : N = w.heap.size) (hx : a.eval x = .slice (some ⟨N, 0, none⟩) 1 1)
    (hK : ∀ v' w', Io B w' v' (l ++ [y]) → Below B w w' → (∀ g, g < w.heap.size → v.ownBlock ≠ some g → w'.heap[g]? = w.heap[g]?) → w.heap.size ≤ w'.heap.size → (∀ k, v'.ownBlock = some k → v.ownBlock = some k ∨ w.heap.size < k) → wpList Try.prog ops Q rest (a.put o.dst v') w') :
    wpList Try.prog ops Q (o :: rest) a (w.alloc (.cells #[.int .i64 y] 3)) := by
  subst hN
  obtain ⟨v', w', hr, h2, h3, h4, h5, h6⟩ := io_run_g B v l hown y hle hB o.type
  refine wpList_plain hgd fun _ hK' => ?_
  unfold Oper.wp execOp
  simp only [ho, resolve, invoke, builtin, Sem.run_bind, Sem.run_pure, Result.andThen_ok, List.map_toArray, List.map_cons, List.map_nil, hs, hx, hr]
  exact hK' _ _ (hK v' w' h2 h3 h4 h5 h6)

set_option maxRecDepth 100000 in
set_option maxHeartbeats 4000000 in
theorem decide_no (v : Int) (A : Option Addr) (t : List Int) (k : Nat) (B : Option Addr) (s : List Int) (q : Nat) (x : Int) (w : World) (h : Ia w w.heap.size A t k) (hl : t.length ≤ 100000) (hr : ∀ x ∈ t, I64 x) (h' : Ia w w.heap.size B s q) (hl' : s.length ≤ 100000) (hx : I64 x) (hE : pE v t s x ≠ 0) :
    Calls Try.prog 8 #[asv v A t.length k B s.length q, .int .i64 x] w (OwIs 0 [] [] (pE v t s x) w) := by
  have H0 := Bx2.new w (.int .i64 v) (.slice A t.length k) (.slice B s.length q)
  have D1 := imply_any v A t k B s q x (bx2 w (.int .i64 v) (.slice A t.length k) (.slice B s.length q)) (h.on H0.b) hl hr (h'.on H0.b) hl' hx
  obtain ⟨p1, p2, p3⟩ := p_no (v := v) (t := t) (s := s) (x := x) (d := false) hE
  rw [p1, p2, p3] at D1
  have e2 : (pE v t s x != 0) = true := by simpa using hE
  obtain ⟨n, hn⟩ : ∃ n, n = t.length := ⟨_, rfl⟩
  obtain ⟨m, hm⟩ : ∃ m, m = s.length := ⟨_, rfl⟩
  obtain ⟨u, hu⟩ : ∃ u, u = pE v t s x := ⟨_, rfl⟩
  rw [← hn, ← hm] at H0
  rw [← hn, ← hm, ← hu] at D1
  rw [← hn, ← hm, ← hu]
  rw [← hu] at e2
  have HB := Lib.hid H0
  have D1' : Calls Try.prog 10 #[asv v A n k B m q, .int .i64 x] (bx2 w (.int .i64 v) (.slice A n k) (.slice B m q)) fun e w' => ∃ A' k' B' q', e = .returned (.tuple #[.agg #[.int .i64 0, .slice A' 0 k', .slice B' 0 q'], .int .i64 u]) ∧ Below (bx2 w (.int .i64 v) (.slice A n k) (.slice B m q)).heap.size (bx2 w (.int .i64 v) (.slice A n k) (.slice B m q)) w' := D1.mono fun e w' h => by
    obtain ⟨A', k', B', q', h1, _, _, h4, _⟩ := h.as
    exact ⟨A', k', B', q', h1, h4⟩
  unfold bx2 at D1'
  clear h hl hr h' hl' hx hn hm hE hu H0 p1 p2 p3 D1
  go_enter Try.func8, Try.ntmps8
  go_wp2_with (first
    | (go_at_call 10; (with_reducible refine D1'.mono ?_); rintro e w2 ⟨A2, k2, B2, q2, rfl, hb2⟩
       have H2 := (HB.out.on hb2).on (bx_on w2 (.cells #[.int .i64 0, .slice A2 0 k2, .slice B2 0 q2] 24))
       obtain ⟨d0, d1, d2, f0, f1, f2⟩ := H2.d
       have HB2 := Lib.hid H2
       clear H2 hb2))
  refine bodyPost_ret (v := .tuple #[.agg #[.int .i64 0, .slice none 0 0, .slice none 0 0], .int .i64 u]) (by simp [results, Try.results8, go_sem, d0, d1, d2]) rfl ?_
  exact OwIs.none rfl (st3_below HB2.out.b (Nat.le_succ _) _ _ _)

set_option maxRecDepth 100000 in
set_option maxHeartbeats 4000000 in
theorem decide_yes (v : Int) (A : Option Addr) (t : List Int) (k : Nat) (B : Option Addr) (s : List Int) (q : Nat) (x : Int) (w : World) (h : Ia w w.heap.size A t k) (hl : t.length ≤ 100000) (hr : ∀ x ∈ t, I64 x) (h' : Ia w w.heap.size B s q) (hl' : s.length ≤ 100000) (hx : I64 x) (hE : pE v t s x = 0) :
    Calls Try.prog 8 #[asv v A t.length k B s.length q, .int .i64 x] w (AsIs v (t ++ [x]) (s ++ [(t.length : Int)]) 0 w) := by
  have H0 := Bx2.new w (.int .i64 v) (.slice A t.length k) (.slice B s.length q)
  have D1 := imply_any v A t k B s q x (bx2 w (.int .i64 v) (.slice A t.length k) (.slice B s.length q)) (h.on H0.b) hl hr (h'.on H0.b) hl' hx
  obtain ⟨p1, p2, _, p3⟩ := p_yes hE
  rw [p1, p2, p3, hE] at D1
  obtain ⟨n, hn⟩ : ∃ n, n = t.length := ⟨_, rfl⟩
  obtain ⟨m, hm⟩ : ∃ m, m = s.length := ⟨_, rfl⟩
  obtain ⟨n1, hn1⟩ : ∃ n1, n1 = (t ++ [x]).length := ⟨_, rfl⟩
  rw [← hn, ← hm] at H0
  rw [← hn, ← hm] at D1
  have hml : m ≤ 100000 := by omega
  have D1' : Calls Try.prog 10 #[asv v A n k B m q, .int .i64 x] (bx2 w (.int .i64 v) (.slice A n k) (.slice B m q)) fun e w' => ∃ A' k' B' q' mm, e = .returned (.tuple #[.agg #[.int .i64 v, .slice A' n1 k', .slice B' m q'], .int .i64 0]) ∧ Bx2 w (.int .i64 v) (.slice A n k) (.slice B m q) w' ∧ Ia w' mm A' (t ++ [x]) k' ∧ Io mm w' (.slice B' m q') s ∧ w.heap.size + 2 ≤ mm ∧ mm ≤ w'.heap.size ∧ (∀ a, A' = some a → w.heap.size + 2 ≤ a.block) ∧ (∀ a, B' = some a → mm ≤ a.block ∧ a.block < w'.heap.size) := D1.mono fun e w' ⟨A', k', vS, mm, h1, h2, h3, h4, h5, h6, h7⟩ => by
    obtain ⟨B', q', hB', hI'⟩ := h3.at
    subst hB'
    have hz : (bx2 w (.int .i64 v) (.slice A n k) (.slice B m q)).heap.size = w.heap.size + 2 := by unfold bx2; simp
    rw [hz] at h4 h7
    rw [← hm] at h1 h3
    refine ⟨A', k', B', q', mm, by rw [h1, hn1], H0.on h6, h2, h3, h4, h5, h7, fun a e => ⟨h3.blk a.block (by subst e; rfl), ?_⟩⟩
    rcases h3.2 with ⟨h8, _⟩ | ⟨g, cap, cur, h8, _, hh, _⟩
    · cases h8; cases e
    · cases h8
      cases e
      exact Has.lt (t := 3) (cs := cur) hh
  unfold bx2 at D1'
  have HB := Lib.hid (And.intro hn (And.intro hm hn1))
  rw [← hn, ← hm]
  clear h hl hr h' hl' hx hn hm hn1 hE H0 p1 p2 p3 D1
  go_enter Try.func8, Try.ntmps8
  go_wp2_with (first
    | (go_at_call 10; (with_reducible refine D1'.mono ?_); rintro e w2 ⟨A2, k2, B2, q2, mm, rfl, hx2, hI2, hO2, hm1, hm2, ha2, hb2⟩
       have H2 := hx2.on (bx_on w2 (.cells #[.int .i64 v, .slice A2 n1 k2, .slice B2 m q2] 24))
       have HC := Has.new w2 24 #[.int .i64 v, .slice A2 n1 k2, .slice B2 m q2]
       obtain ⟨c0, c1, c2⟩ := H2.c
       have HX := Lib.hid (And.intro H2 (And.intro hI2 (And.intro hO2 (And.intro hm1 (And.intro hm2 (And.intro ha2 (And.intro hb2 HC)))))))
       clear H2 hx2 hI2 hO2 hm1 hm2 ha2 hb2 HC)
    | (at_builtin; (refine append_own1 rfl (.tmp 19) (.tmp 23) rfl mm (.slice B2 m q2) s n rfl (HX.out.2.2.1.keep (bx_on _ _)) (by have := HB.out.2.1; omega) (by have := HX.out.2.2.2.2.1; simp; omega) (w2.heap.size + 1) (by simp) rfl ?_); intro v4 w4 ho4 hb4 hg4 hz4 hk4
       obtain ⟨A4, k4, rfl, hI4⟩ := ho4.at
       obtain ⟨n4, hn4⟩ : ∃ n4, n4 = (s ++ [(n : Int)]).length := ⟨_, rfl⟩
       rw [← hn4] at ho4 hk4 ⊢
       have hC4 : Has w4 w2.heap.size 24 #[.int .i64 v, .slice A2 n1 k2, .slice B2 m q2] := (hg4 w2.heap.size (by simp) (fun e => by
         cases B2 with
         | none => cases e
         | some a => injection e with e; have := (HX.out.2.2.2.2.2.2.1 a rfl).2; omega)).trans HX.out.2.2.2.2.2.2.2
       have hD4 : Has w4 (w.heap.size + 1) 24 #[.int .i64 0, .slice none 0 0, .slice none 0 0] := HX.out.1.h2.keep hb4 (by have := HX.out.2.2.2.1; omega)
       have hne : ¬ (w2.heap.size = w.heap.size + 1) := by have := HX.out.2.2.2.1; have := HX.out.2.2.2.2.1; omega
       have hne2 : ¬ (w.heap.size + 1 = w2.heap.size) := fun e => hne e.symm
       have y0 : w4.cell? ⟨w2.heap.size, 0, none⟩ = some (.int .i64 v) := hC4.cell 0
       have y1 : w4.cell? ⟨w2.heap.size, 1, none⟩ = some (.slice A2 n1 k2) := hC4.cell 1
       have y2 : w4.cell? ⟨w2.heap.size, 2, none⟩ = some (.slice B2 m q2) := hC4.cell 2
       have yf := hC4.fz 2
       have d0 : w4.cell? ⟨w.heap.size + 1, 0, none⟩ = some (.int .i64 0) := hD4.cell 0
       have d1 : w4.cell? ⟨w.heap.size + 1, 1, none⟩ = some (.slice none 0 0) := hD4.cell 1
       have d2 : w4.cell? ⟨w.heap.size + 1, 2, none⟩ = some (.slice none 0 0) := hD4.cell 2
       have f0 := hD4.fz 0
       have f1 := hD4.fz 1
       have f2 := hD4.fz 2
       have HY := Lib.hid (And.intro ho4 (And.intro hI4 (And.intro hb4 (And.intro hk4 (And.intro hn4 hz4)))))
       clear ho4 hI4 hb4 hg4 hz4 hk4 hn4 hC4 hD4))
  refine bodyPost_ret (v := .tuple #[.agg #[.int .i64 v, .slice A2 n1 k2, .slice A4 n4 k4], .int .i64 0]) (by simp [results, Try.results8, go_sem, d0, d1, d2, hne, hne2]) rfl ?_
  have hmm := HX.out.2.2.2.2.1
  have hlo := HX.out.2.2.2.1
  have hB34 : Below mm w2 w4 := ((bx_on _ _).mono hmm).trans HY.out.2.2.1
  have hI2 := HX.out.2.1.keep hB34
  have hA2 : ∀ a, A2 = some a → a.block ≠ w2.heap.size := fun a e => by
    obtain ⟨a', e', hb, _⟩ := HX.out.2.1.h (by rw [List.length_append]; simp)
    rw [e] at e'
    cases e'
    omega
  have hA2' : ∀ a, A2 = some a → a.block ≠ w.heap.size + 1 := fun a e => by have := HX.out.2.2.2.2.2.1 a e; omega
  have hA4 : ∀ a, A4 = some a → a.block ≠ w2.heap.size := fun a e => by
    subst e
    rcases HY.out.2.2.2.1 a.block rfl with h | h
    · cases B2 with
      | none => cases h
      | some b => injection h with h; have := (HX.out.2.2.2.2.2.2.1 b rfl).2; omega
    · simp at h; omega
  have hA4' : ∀ a, A4 = some a → a.block ≠ w.heap.size + 1 := fun a e => by
    subst e
    have := HY.out.1.blk a.block rfl
    omega
  have hz : w2.heap.size ≤ w4.heap.size := by have := HY.out.2.2.2.2.2; simp at this; omega
  have hzf : (st3 (w4.setCell ⟨w2.heap.size, 2, none⟩ (.slice A4 n4 k4)) (w.heap.size + 1) (.int .i64 v) (.slice A2 n1 k2) (.slice A4 n4 k4)).heap.size = w4.heap.size := by rw [st3_size]; simp [World.setCell]
  refine ⟨A2, k2, A4, k4, by rw [HB.out.2.2, HY.out.2.2.2.2.1], ?_, ?_, ?_, fun a e => (by have := HX.out.2.2.2.2.2.1 a e; omega), fun a e => by subst e; have := HY.out.1.blk a.block rfl; omega⟩
  · exact (((hI2.set (q := ⟨w2.heap.size, 2, none⟩) hA2 (.slice A4 n4 k4)).st3 hA2' (.int .i64 v) (.slice A2 n1 k2) (.slice A4 n4 k4)).more (by rw [hzf]; omega))
  · exact (((HY.out.2.1.set (q := ⟨w2.heap.size, 2, none⟩) hA4 (.slice A4 n4 k4)).st3 hA4' (.int .i64 v) (.slice A2 n1 k2) (.slice A4 n4 k4)).more (by rw [hzf]; exact Nat.le_refl _))
  · have hB4 : Below w.heap.size w w4 := HX.out.1.b.trans (HY.out.2.2.1.mono (by omega))
    exact st3_below (hB4.setCell (p := ⟨w2.heap.size, 2, none⟩) (show w.heap.size ≤ w2.heap.size by omega) _) (by omega) _ _ _

theorem decide_any (v : Int) (A : Option Addr) (t : List Int) (k : Nat) (B : Option Addr) (s : List Int) (q : Nat) (x : Int) (w : World) (h : Ia w w.heap.size A t k) (hl : t.length ≤ 100000) (hr : ∀ x ∈ t, I64 x) (h' : Ia w w.heap.size B s q) (hl' : s.length ≤ 100000) (hx : I64 x) :
    Calls Try.prog 8 #[asv v A t.length k B s.length q, .int .i64 x] w (AsIs (pV v t s x) (pT v t s x) (pS v t s x true) (pE v t s x) w) := by
  by_cases hE : pE v t s x = 0
  · obtain ⟨p1, p2, p3, p4⟩ := p_yes hE
    rw [p1, p2, p3, hE]
    exact decide_yes v A t k B s q x w h hl hr h' hl' hx hE
  · obtain ⟨p1, p2, p3⟩ := p_no (v := v) (t := t) (s := s) (x := x) (d := true) hE
    rw [p1, p2, p3]
    exact (decide_no v A t k B s q x w h hl hr h' hl' hx hE).mono fun e w' h => h.as

end Go.Proofs.Ytcmdongdjacgbaa
