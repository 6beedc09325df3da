/- The reference's contracts: Twin. -/
import Derived.Test.YtecmldnigohjfaaDoorAsRef
namespace Go.Proofs.YtecmldnigohjfaaDoor
open Go Go.RowKit
set_option linter.unusedVariables false
set_option linter.unusedSimpArgs false

/-- two lists that a call owns, apart -/
structure Two (b : Nat) (W : World) (v1 : Value) (l1 : List Int) (v2 : Value) (l2 : List Int) : Prop where
  o1 : Io b W v1 l1
  o2 : Io b W v2 l2
  ap : ∀ g, v1.ownBlock = some g → v2.ownBlock ≠ some g
theorem Io.lt {b : Nat} {W : World} {v : Value} {l : List Int} (h : Io b W v l) {k : Nat} (hk : v.ownBlock = some k) : k < W.heap.size := (World.ownsRow.lt h k hk).2
section
variable {b : Nat} {W : World} {v1 v2 : Value} {l1 l2 : List Int}
theorem Two.swap (h : Two b W v1 l1 v2 l2) : Two b W v2 l2 v1 l1 := ⟨h.o2, h.o1, fun g h2 h1 => h.ap g h1 h2⟩
theorem Two.nil (b : Nat) (W : World) : Two b W (.slice none 0 0) [] (.slice none 0 0) [] := ⟨Io.nil _ _, Io.nil _ _, fun g h => by cases h⟩
theorem Two.drew (h : Two b W v1 l1 v2 l2) : Two b W.drew v1 l1 v2 l2 := ⟨h.o1, h.o2, h.ap⟩
theorem Two.new1 (h : Two b W v1 l1 v2 l2) (hb : b ≤ W.heap.size) : Two b (W.alloc (.cells #[] 3)) (.slice (some ⟨W.heap.size, 0, none⟩) 0 0) [] v2 l2 :=
  ⟨Io.lit (l := []) rfl hb (by simp), h.o2.keep (bx_on _ _), fun g hg h2 => (by have hg : W.heap.size = g := (by simpa [Value.ownBlock] using hg); have := h.o2.lt h2; omega)⟩
theorem Two.new2 (h : Two b W v1 l1 v2 l2) (hb : b ≤ W.heap.size) : Two b (W.alloc (.cells #[] 3)) v1 l1 (.slice (some ⟨W.heap.size, 0, none⟩) 0 0) [] := (h.swap.new1 hb).swap
theorem Io.same {w' : World} {v : Value} {l : List Int} (h : Io b W v l) (hh : ∀ g, v.ownBlock = some g → w'.heap[g]? = W.heap[g]?) : Io b w' v l := by
  refine ⟨h.1, h.2.imp id fun ⟨g, cap, cur, h1, h2, h3, h4⟩ => ⟨g, cap, cur, h1, h2, ?_, h4⟩⟩
  rw [hh g (by rw [h1]; rfl)]; exact h3
/-- append to the one -/
theorem Two.app1 (h : Two b W v1 l1 v2 l2) (hb : b ≤ W.heap.size) {A : Option Addr} {n k : Nat} {m : List Int} (hn : n = m.length) (hs : Src W A m.length k (iC m)) (hle : l1.length + m.length ≤ 1000000) (ty : TypeId) :
    ∃ v' w', (Builtin.append_ #[22, 22] ty #[v1, .slice A n k]).run Tryd.prog W = .ok v' w' ∧ Two b w' v' (l1 ++ m) v2 l2 ∧ Below b W w' ∧ (∀ g, g < W.heap.size → v1.ownBlock ≠ some g → w'.heap[g]? = W.heap[g]?) := by
  obtain ⟨i0, hi0, hzz0, hs0, hy0⟩ := info_parts info_int
  subst hn
  rcases hs with ⟨rfl, h1, rfl, h3⟩ | ⟨ad, rfl, hc⟩
  · have hm : m = [] := List.eq_nil_of_length_eq_zero h1
    subst hm
    exact ⟨v1, W, run_append_owned_none (P := Tryd.prog) (w := W) b 22 ty 3 i0 1 Tryd.underlying22 hi0 v1 l1.length (iC l1) h.o1, by simpa using h, Below.refl _ _, fun _ _ _ => rfl⟩
  · obtain ⟨v', w', hr, h2, h3, _, h5⟩ := run_append_own_at (P := Tryd.prog) W b 22 ty 3 i0 (.int .i64 0) 1 8 Tryd.underlying22 hi0 hzz0 hs0 hy0 rfl (by decide) v1 l1.length (iC l1) h.o1 ad m.length k (iC m) (by rw [iC_len]) hc (iC_one m) (by simp only [maxLen]; omega) (by omega) hb
    have hold : ∀ g, g < W.heap.size → v1.ownBlock ≠ some g → w'.heap[g]? = W.heap[g]? := fun g hg hne => h3.block g hg (fun e => hne e.symm)
    refine ⟨v', w', hr, ⟨Io.mk h2 (by rw [List.length_append]) (by rw [iC_app]), h.o2.same fun g hg => hold g (h.o2.lt hg) (fun e => h.ap g e hg), fun g hg h6 => ?_⟩, (Below.refl b W).grown h3 hb (fun k hk => h.o1.blk k hk), hold⟩
    rcases h5 with h5 | h5
    · rw [h5] at hg; exact h.ap g hg h6
    · rw [h5] at hg
      injection hg with hg
      have := h.o2.lt h6
      omega
theorem Two.app2 (h : Two b W v1 l1 v2 l2) (hb : b ≤ W.heap.size) {A : Option Addr} {n k : Nat} {m : List Int} (hn : n = m.length) (hs : Src W A m.length k (iC m)) (hle : l2.length + m.length ≤ 1000000) (ty : TypeId) :
    ∃ v' w', (Builtin.append_ #[22, 22] ty #[v2, .slice A n k]).run Tryd.prog W = .ok v' w' ∧ Two b w' v1 l1 v' (l2 ++ m) ∧ Below b W w' ∧ (∀ g, g < W.heap.size → v2.ownBlock ≠ some g → w'.heap[g]? = W.heap[g]?) := by
  obtain ⟨v', w', h1, h2, h3, h4⟩ := h.swap.app1 hb hn hs hle ty
  exact ⟨v', w', h1, h2.swap, h3, h4⟩
theorem Two.set {q : Addr} (h : Two b W v1 l1 v2 l2) (hq : q.block < b) (u : Value) : Two b (W.setCell q u) v1 l1 v2 l2 := ⟨h.o1.set hq u, h.o2.set hq u, h.ap⟩
theorem Two.st3 {g : Nat} (h : Two b W v1 l1 v2 l2) (hq : g < b) (u0 u1 u2 : Value) : Two b (st3 W g u0 u1 u2) v1 l1 v2 l2 := ⟨h.o1.st3 hq u0 u1 u2, h.o2.st3 hq u0 u1 u2, h.ap⟩
end
/-- what the reference's functions that copy return -/
def TwIs (v : Int) (t s : List Int) (w : World) (en : Ending) (w' : World) : Prop := ∃ v1 v2, en = .returned (.agg #[.int .i64 v, v1, v2]) ∧ Two w.heap.size w' v1 t v2 s ∧ Below w.heap.size w w'

theorem Bx2.far {w W W' : World} {x0 x1 x2 : Value} (hX : Bx2 w x0 x1 x2 W) (hb : Below (w.heap.size + 2) W W') : Bx2 w x0 x1 x2 W' := ⟨hX.b.trans (hb.mono (by omega)), Nat.le_trans hX.z hb.size, hX.h1.keep hb (by omega), hX.h2.keep hb (by omega)⟩
theorem tw_app1 {w W : World} {x0 x1 x2 v1 v2 : Value} {l1 l2 : List Int} (hT : Two (w.heap.size + 2) W v1 l1 v2 l2) (hX : Bx2 w x0 x1 x2 W) {A : Option Addr} {n k : Nat} {m : List Int} (hn : n = m.length) (h : Ia w w.heap.size A m k) (hle : l1.length + m.length ≤ 1000000) (ty : TypeId) :
    ∃ v' w', (Builtin.append_ #[22, 22] ty #[v1, .slice A n k]).run Tryd.prog W = .ok v' w' ∧ (Two (w.heap.size + 2) w' v' (l1 ++ m) v2 l2 ∧ Bx2 w x0 x1 x2 w') := by
  obtain ⟨v', w', h1, h2, h3, _⟩ := hT.app1 hX.z hn ((h.on hX.b).src) hle ty
  exact ⟨v', w', h1, h2, hX.far h3⟩
theorem tw_app2 {w W : World} {x0 x1 x2 v1 v2 : Value} {l1 l2 : List Int} (hT : Two (w.heap.size + 2) W v1 l1 v2 l2) (hX : Bx2 w x0 x1 x2 W) {A : Option Addr} {n k : Nat} {m : List Int} (hn : n = m.length) (h : Ia w w.heap.size A m k) (hle : l2.length + m.length ≤ 1000000) (ty : TypeId) :
    ∃ v' w', (Builtin.append_ #[22, 22] ty #[v2, .slice A n k]).run Tryd.prog W = .ok v' w' ∧ (Two (w.heap.size + 2) w' v1 l1 v' (l2 ++ m) ∧ Bx2 w x0 x1 x2 w') := by
  obtain ⟨v', w', h1, h2, h3, _⟩ := hT.app2 hX.z hn ((h.on hX.b).src) hle ty
  exact ⟨v', w', h1, h2, hX.far h3⟩

set_option maxRecDepth 100000 in
set_option maxHeartbeats 10000000 in
theorem twin14_any (v : Int) (A : Option Addr) (t : List Int) (k : Nat) (B : Option Addr) (s : List Int) (q : Nat) (w : World) (h : Ia w w.heap.size A t k) (hl : t.length ≤ 100000) (h' : Ia w w.heap.size B s q) (hl' : s.length ≤ 100000) :
    Calls Tryd.prog 11 #[asv v A t.length k B s.length q] w (TwIs v t s w) := by
  have H0 := (Bx2.new w (.int .i64 v) (.slice A t.length k) (.slice B s.length q)).on (below_dn (Below.refl _ _) 1)
  unfold bx2 at H0
  obtain ⟨n, hn⟩ : ∃ n, n = t.length := ⟨_, rfl⟩
  obtain ⟨m, hm⟩ : ∃ m, m = s.length := ⟨_, rfl⟩
  rw [← hn, ← hm] at H0 ⊢
  have HN := Lib.hid (And.intro hn hm)
  have HI := Lib.hid (And.intro h (And.intro h' (And.intro hl hl')))
  have HX0 := Lib.hid H0
  clear h hl h' hl' hn hm H0
  go_enter Tryd.func11, Tryd.ntmps11
  go_wp2
  have hX0 := HX0.out
  generalize hW0 : ((w.alloc (.cells #[.int .i64 v, .slice A n k, .slice B m q] 24)).alloc (.cells #[.int .i64 0, .slice none 0 0, .slice none 0 0] 24)) = W0 at hX0 HX0 ⊢
  clear hW0 HX0
  have hX0 : Bx2 w (.int .i64 v) (.slice A n k) (.slice B m q) W0.drew := hX0
  have hS0 : (fun W : World => W.cell? ⟨w.heap.size, 0, none⟩ = some (.int .i64 v) ∧ W.cell? ⟨w.heap.size, 1, none⟩ = some (.slice A n k) ∧ W.cell? ⟨w.heap.size, 2, none⟩ = some (.slice B m q)) W0.drew := hX0.c
  refine wp_slots (fun f => Sz f 14 ∧ Slot f 1 (.pointer (some ⟨w.heap.size, 0, none⟩)) ∧ Slot f 2 (.pointer (some ⟨w.heap.size + 1, 0, none⟩))) ⟨⟨rfl, rfl⟩, ⟨rfl⟩, ⟨rfl⟩⟩ fun a0 hA0 hR => ?_
  obtain ⟨hZ, hs1, hs2⟩ := hR
  clear hA0
  refine wp_region_T (fun W : World => W.cell? ⟨w.heap.size, 0, none⟩ = some (.int .i64 v) ∧ W.cell? ⟨w.heap.size, 1, none⟩ = some (.slice A n k) ∧ W.cell? ⟨w.heap.size, 2, none⟩ = some (.slice B m q)) 12 (by kernel_rfl) ?_
  refine WT.h ?_
  (refine wt_take1 0 1 (v := ?_) rfl rfl (by kernel_rfl) (by kernel_rfl) (by kernel_rfl) (by kernel_rfl) (fun _ _ _ h => h) rfl hS0 (by (repeat (first | (refine slot_hit (N := 14) ?_ (by rfl); (repeat (refine sz_put ?_)); assumption; done) | (apply slot_miss; focus rfl))); all_goals assumption) (fun ev hk hv0 w hS => ?_) ?_; rotate_left; focus (obtain ⟨j0, j1, j2⟩ := hS; go_simp; rfl)); (refine wt_take1 1 3 (v := ?_) rfl rfl (by kernel_rfl) (by kernel_rfl) (by kernel_rfl) (by kernel_rfl) (fun _ _ _ h => h) rfl hS0 (by (repeat (first | (refine slot_hit (N := 14) ?_ (by rfl); (repeat (refine sz_put ?_)); assumption; done) | (apply slot_miss; focus rfl))); all_goals assumption) (fun ev hk hv0 w hS => ?_) ?_; rotate_left; focus (obtain ⟨j0, j1, j2⟩ := hS; go_simp; rfl)); (refine wt_take1 3 1 (v := ?_) rfl rfl (by kernel_rfl) (by kernel_rfl) (by kernel_rfl) (by kernel_rfl) (fun _ _ _ h => h) rfl hS0 (by (repeat (first | (refine slot_hit (N := 14) ?_ (by rfl); (repeat (refine sz_put ?_)); assumption; done) | (apply slot_miss; focus rfl))); all_goals assumption) (fun ev hk hv0 w hS => ?_) ?_; rotate_left; focus (obtain ⟨j0, j1, j2⟩ := hS; go_simp; rfl)); (refine wt_take1 4 6 (v := ?_) rfl rfl (by kernel_rfl) (by kernel_rfl) (by kernel_rfl) (by kernel_rfl) (fun _ _ _ h => h) rfl hS0 (by (repeat (first | (refine slot_hit (N := 14) ?_ (by rfl); (repeat (refine sz_put ?_)); assumption; done) | (apply slot_miss; focus rfl))); all_goals assumption) (fun ev hk hv0 w hS => ?_) ?_; rotate_left; focus (obtain ⟨j0, j1, j2⟩ := hS; go_simp; rfl)); (refine wt_take1 7 1 (v := ?_) rfl rfl (by kernel_rfl) (by kernel_rfl) (by kernel_rfl) (by kernel_rfl) (fun _ _ _ h => h) rfl hS0 (by (repeat (first | (refine slot_hit (N := 14) ?_ (by rfl); (repeat (refine sz_put ?_)); assumption; done) | (apply slot_miss; focus rfl))); all_goals assumption) (fun ev hk hv0 w hS => ?_) ?_; rotate_left; focus (obtain ⟨j0, j1, j2⟩ := hS; go_simp; rfl)); (refine wt_take1 8 10 (v := ?_) rfl rfl (by kernel_rfl) (by kernel_rfl) (by kernel_rfl) (by kernel_rfl) (fun _ _ _ h => h) rfl hS0 (by (repeat (first | (refine slot_hit (N := 14) ?_ (by rfl); (repeat (refine sz_put ?_)); assumption; done) | (apply slot_miss; focus rfl))); all_goals assumption) (fun ev hk hv0 w hS => ?_) ?_; rotate_left; focus (obtain ⟨j0, j1, j2⟩ := hS; go_simp; rfl))
  refine ways_vv 2 6 (by kernel_rfl) rfl rfl rfl rfl rfl rfl (v := ?_) (wi := ?_) (u := ?_) (wj := ?_) (fun ev hk => ?_) (fun ev hk => ?_) ?_ ?_ ?_ ?_
  rotate_left 4
  focus (go_simp; first | rfl | (constructor <;> rfl))
  focus (go_simp; first | rfl | (constructor <;> rfl))
  · exact fun _ => (hX0.on (bx_on _ _)).c
  · exact fun _ => (hX0.on (bx_on _ _)).c
  · have hT1 := (Two.nil (w.heap.size + 2) W0.drew).new1 hX0.z
    have hX1 := hX0.on (bx_on W0.drew (.cells #[] 3))
    have hS0 : (fun W : World => W.cell? ⟨w.heap.size, 0, none⟩ = some (.int .i64 v) ∧ W.cell? ⟨w.heap.size, 1, none⟩ = some (.slice A n k) ∧ W.cell? ⟨w.heap.size, 2, none⟩ = some (.slice B m q)) (W0.drew.alloc (.cells #[] 3)) := hX1.c
    refine ways_av 5 5 7 6 (by kernel_rfl) rfl rfl rfl rfl rfl rfl (by (repeat (first | (refine slot_hit (N := 14) ?_ (by rfl); (repeat (refine sz_put ?_)); assumption; done) | (apply slot_miss; focus rfl))); all_goals assumption) (by (repeat (first | (refine slot_hit (N := 14) ?_ (by rfl); (repeat (refine sz_put ?_)); assumption; done) | (apply slot_miss; focus rfl))); all_goals assumption) rfl (tw_app1 hT1 hX1 HN.out.1 HI.out.1 (by have := HI.out.2.2.1; simp; omega)) (u := ?_) (wj := ?_) (fun ev hk => ?_) (fun v' w' hR _ => hR.2.c) ?_ (fun v8 w8 hR => ?_) ?_
    rotate_left 2
    focus (go_simp; first | rfl | (constructor <;> rfl))
    · exact fun _ => (hX1.on (bx_on _ _)).c
    · obtain ⟨hT8, hX8⟩ := hR
      have hS0 : (fun W : World => W.cell? ⟨w.heap.size, 0, none⟩ = some (.int .i64 v) ∧ W.cell? ⟨w.heap.size, 1, none⟩ = some (.slice A n k) ∧ W.cell? ⟨w.heap.size, 2, none⟩ = some (.slice B m q)) w8 := hX8.c
      refine wt_val0 6  (by kernel_rfl) rfl rfl rfl  (v := ?_) (w' := ?_) (fun ev hk  => ?_) ?_; rotate_left 2; focus (go_simp; first | rfl | (constructor <;> rfl))
      have hT8' := hT8.new2 hX8.z
      have hX8' := hX8.on (bx_on w8 (.cells #[] 3))
      have hS0 : (fun W : World => W.cell? ⟨w.heap.size, 0, none⟩ = some (.int .i64 v) ∧ W.cell? ⟨w.heap.size, 1, none⟩ = some (.slice A n k) ∧ W.cell? ⟨w.heap.size, 2, none⟩ = some (.slice B m q)) (w8.alloc (.cells #[] 3)) := hX8'.c
      refine ⟨fun _ => hS0, ?_⟩
      refine wt_append13 9 9 11 (by kernel_rfl) rfl rfl rfl (by (repeat (first | (refine slot_hit (N := 14) ?_ (by rfl); (repeat (refine sz_put ?_)); assumption; done) | (apply slot_miss; focus rfl))); all_goals assumption) (by (repeat (first | (refine slot_hit (N := 14) ?_ (by rfl); (repeat (refine sz_put ?_)); assumption; done) | (apply slot_miss; focus rfl))); all_goals assumption) rfl (tw_app2 hT8' hX8' HN.out.2 HI.out.2.1 (by have := HI.out.2.2.2; simp; omega)) (fun v9 w9 hR9 => ?_)
      obtain ⟨hT9, hX9⟩ := hR9
      refine ⟨fun _ => hX9.c, ?_⟩
      rw [List.nil_append, List.nil_append] at hT9
      obtain ⟨A8, k8, rfl, _⟩ := hT9.o1.at
      obtain ⟨B9, q9, rfl, _⟩ := hT9.o2.at
      obtain ⟨n5, hn5⟩ : ∃ n5, n5 = t.length := ⟨_, rfl⟩
      obtain ⟨m5, hm5⟩ : ∃ m5, m5 = s.length := ⟨_, rfl⟩
      rw [← hn5, ← hm5] at hT9
      rw [← hn5, ← hm5]
      clear hn5 hm5
      have hS0 : (fun W : World => W.cell? ⟨w.heap.size, 0, none⟩ = some (.int .i64 v) ∧ W.cell? ⟨w.heap.size, 1, none⟩ = some (.slice A n k) ∧ W.cell? ⟨w.heap.size, 2, none⟩ = some (.slice B m q)) w9 := hX9.c
      (refine wt_take3 10 4 8 12 (v := ?_) rfl rfl (by kernel_rfl) (by kernel_rfl) (by kernel_rfl) (by kernel_rfl) (fun _ _ _ h => h) rfl hS0 (by (repeat (first | (refine slot_hit (N := 14) ?_ (by rfl); (repeat (refine sz_put ?_)); assumption; done) | (apply slot_miss; focus rfl))); all_goals assumption) (by (repeat (first | (refine slot_hit (N := 14) ?_ (by rfl); (repeat (refine sz_put ?_)); assumption; done) | (apply slot_miss; focus rfl))); all_goals assumption) (by (repeat (first | (refine slot_hit (N := 14) ?_ (by rfl); (repeat (refine sz_put ?_)); assumption; done) | (apply slot_miss; focus rfl))); all_goals assumption) (fun ev hk hv0 hv1 hv2 w hS => ?_) ?_; rotate_left; focus (obtain ⟨j0, j1, j2⟩ := hS; go_simp; rfl))
      obtain ⟨d0, d1, d2, f0, f1, f2⟩ := hX9.d
      refine wt_act2 11 2 13 (by kernel_rfl) rfl rfl rfl (by (repeat (first | (refine slot_hit (N := 14) ?_ (by rfl); (repeat (refine sz_put ?_)); assumption; done) | (apply slot_miss; focus rfl))); all_goals assumption) (by (repeat (first | (refine slot_hit (N := 14) ?_ (by rfl); (repeat (refine sz_put ?_)); assumption; done) | (apply slot_miss; focus rfl))); all_goals assumption) (w' := ?_) (fun ev hk hv0 hv1 => ?_) ?_; rotate_left; focus (go_simp; rfl)
      have hTf := hT9.st3 (show w.heap.size + 1 < w.heap.size + 2 by omega) (.int .i64 v) (.slice A8 n5 k8) (.slice B9 m5 q9)
      have hCf := st3_has hX9.h2 (.int .i64 v) (.slice A8 n5 k8) (.slice B9 m5 q9)
      have hBf := st3_below hX9.b (Nat.le_succ _) (.int .i64 v) (.slice A8 n5 k8) (.slice B9 m5 q9)
      have hSf : (fun W : World => W.cell? ⟨w.heap.size, 0, none⟩ = some (.int .i64 v) ∧ W.cell? ⟨w.heap.size, 1, none⟩ = some (.slice A n k) ∧ W.cell? ⟨w.heap.size, 2, none⟩ = some (.slice B m q)) (st3 w9 (w.heap.size + 1) (.int .i64 v) (.slice A8 n5 k8) (.slice B9 m5 q9)) := ⟨(st3_cell (by omega) _ _ _).trans hX9.c.1, (st3_cell (by omega) _ _ _).trans hX9.c.2.1, (st3_cell (by omega) _ _ _).trans hX9.c.2.2⟩
      unfold st3 at hTf hCf hBf hSf
      generalize ((w9.setCell ⟨w.heap.size + 1, 0, none⟩ (.int .i64 v)).setCell ⟨w.heap.size + 1, 1, none⟩ (.slice A8 n5 k8)).setCell ⟨w.heap.size + 1, 2, none⟩ (.slice B9 m5 q9) = W7 at hTf hCf hBf hSf ⊢
      refine ⟨fun _ => hSf, ?_⟩
      refine wt_known (N := 14) (by kernel_rfl) (by (repeat (refine sz_put ?_)); assumption) [(2, .pointer (some ⟨w.heap.size + 1, 0, none⟩))] ⟨(by (repeat (first | (refine slot_hit (N := 14) ?_ (by rfl); (repeat (refine sz_put ?_)); assumption; done) | (apply slot_miss; focus rfl))); all_goals assumption), trivial⟩ fun fv fl hfl => ?_; obtain rfl : fl = [fv 0, fv 1, (.pointer (some ⟨w.heap.size + 1, 0, none⟩) : Value), fv 3, fv 4, fv 5, fv 6, fv 7, fv 8, fv 9, fv 10, fv 11, fv 12, fv 13] := hfl.symm.trans (by kernel_rfl); clear hfl
      have z0 : W7.cell? ⟨w.heap.size + 1, 0, none⟩ = some (.int .i64 v) := hCf.cell 0
      have z1 : W7.cell? ⟨w.heap.size + 1, 1, none⟩ = some (.slice A8 n5 k8) := hCf.cell 1
      have z2 : W7.cell? ⟨w.heap.size + 1, 2, none⟩ = some (.slice B9 m5 q9) := hCf.cell 2
      have HF := Lib.hid (And.intro hTf hBf)
      clear hCf hTf hBf hSf hT9 hX9 d0 d1 d2 f0 f1 f2 hS0
      go_wp2
      refine bodyPost_ret (v := .agg #[.int .i64 v, .slice A8 n5 k8, .slice B9 m5 q9]) (by simp [results, Tryd.results11, go_sem, z0, z1, z2]) rfl ?_
      exact ⟨_, _, rfl, ⟨HF.out.1.o1.base (by omega), HF.out.1.o2.base (by omega), HF.out.1.ap⟩, HF.out.2⟩
    · have hT2 := hT1.new2 hX1.z
      rw [show (W0.drew.alloc (.cells #[] 3)).heap.size = W0.heap.size + 1 from World.size_alloc _ _] at hT2
      have hX2 := hX1.on (bx_on (W0.drew.alloc (.cells #[] 3)) (.cells #[] 3))
      have hS0 : (fun W : World => W.cell? ⟨w.heap.size, 0, none⟩ = some (.int .i64 v) ∧ W.cell? ⟨w.heap.size, 1, none⟩ = some (.slice A n k) ∧ W.cell? ⟨w.heap.size, 2, none⟩ = some (.slice B m q)) ((W0.drew.alloc (.cells #[] 3)).alloc (.cells #[] 3)) := hX2.c
      refine wt_append13 5 5 7 (by kernel_rfl) rfl rfl rfl (by (repeat (first | (refine slot_hit (N := 14) ?_ (by rfl); (repeat (refine sz_put ?_)); assumption; done) | (apply slot_miss; focus rfl))); all_goals assumption) (by (repeat (first | (refine slot_hit (N := 14) ?_ (by rfl); (repeat (refine sz_put ?_)); assumption; done) | (apply slot_miss; focus rfl))); all_goals assumption) rfl (tw_app1 hT2 hX2 HN.out.1 HI.out.1 (by have := HI.out.2.2.1; simp; omega)) (fun v8 w8 hR8 => ?_)
      obtain ⟨hT8', hX8'⟩ := hR8
      refine ⟨fun _ => hX8'.c, ?_⟩
      refine wt_append13 9 9 11 (by kernel_rfl) rfl rfl rfl (by (repeat (first | (refine slot_hit (N := 14) ?_ (by rfl); (repeat (refine sz_put ?_)); assumption; done) | (apply slot_miss; focus rfl))); all_goals assumption) (by (repeat (first | (refine slot_hit (N := 14) ?_ (by rfl); (repeat (refine sz_put ?_)); assumption; done) | (apply slot_miss; focus rfl))); all_goals assumption) rfl (tw_app2 hT8' hX8' HN.out.2 HI.out.2.1 (by have := HI.out.2.2.2; simp; omega)) (fun v9 w9 hR9 => ?_)
      obtain ⟨hT9, hX9⟩ := hR9
      refine ⟨fun _ => hX9.c, ?_⟩
      rw [List.nil_append, List.nil_append] at hT9
      obtain ⟨A8, k8, rfl, _⟩ := hT9.o1.at
      obtain ⟨B9, q9, rfl, _⟩ := hT9.o2.at
      obtain ⟨n5, hn5⟩ : ∃ n5, n5 = t.length := ⟨_, rfl⟩
      obtain ⟨m5, hm5⟩ : ∃ m5, m5 = s.length := ⟨_, rfl⟩
      rw [← hn5, ← hm5] at hT9
      rw [← hn5, ← hm5]
      clear hn5 hm5
      have hS0 : (fun W : World => W.cell? ⟨w.heap.size, 0, none⟩ = some (.int .i64 v) ∧ W.cell? ⟨w.heap.size, 1, none⟩ = some (.slice A n k) ∧ W.cell? ⟨w.heap.size, 2, none⟩ = some (.slice B m q)) w9 := hX9.c
      (refine wt_take3 10 4 8 12 (v := ?_) rfl rfl (by kernel_rfl) (by kernel_rfl) (by kernel_rfl) (by kernel_rfl) (fun _ _ _ h => h) rfl hS0 (by (repeat (first | (refine slot_hit (N := 14) ?_ (by rfl); (repeat (refine sz_put ?_)); assumption; done) | (apply slot_miss; focus rfl))); all_goals assumption) (by (repeat (first | (refine slot_hit (N := 14) ?_ (by rfl); (repeat (refine sz_put ?_)); assumption; done) | (apply slot_miss; focus rfl))); all_goals assumption) (by (repeat (first | (refine slot_hit (N := 14) ?_ (by rfl); (repeat (refine sz_put ?_)); assumption; done) | (apply slot_miss; focus rfl))); all_goals assumption) (fun ev hk hv0 hv1 hv2 w hS => ?_) ?_; rotate_left; focus (obtain ⟨j0, j1, j2⟩ := hS; go_simp; rfl))
      obtain ⟨d0, d1, d2, f0, f1, f2⟩ := hX9.d
      refine wt_act2 11 2 13 (by kernel_rfl) rfl rfl rfl (by (repeat (first | (refine slot_hit (N := 14) ?_ (by rfl); (repeat (refine sz_put ?_)); assumption; done) | (apply slot_miss; focus rfl))); all_goals assumption) (by (repeat (first | (refine slot_hit (N := 14) ?_ (by rfl); (repeat (refine sz_put ?_)); assumption; done) | (apply slot_miss; focus rfl))); all_goals assumption) (w' := ?_) (fun ev hk hv0 hv1 => ?_) ?_; rotate_left; focus (go_simp; rfl)
      have hTf := hT9.st3 (show w.heap.size + 1 < w.heap.size + 2 by omega) (.int .i64 v) (.slice A8 n5 k8) (.slice B9 m5 q9)
      have hCf := st3_has hX9.h2 (.int .i64 v) (.slice A8 n5 k8) (.slice B9 m5 q9)
      have hBf := st3_below hX9.b (Nat.le_succ _) (.int .i64 v) (.slice A8 n5 k8) (.slice B9 m5 q9)
      have hSf : (fun W : World => W.cell? ⟨w.heap.size, 0, none⟩ = some (.int .i64 v) ∧ W.cell? ⟨w.heap.size, 1, none⟩ = some (.slice A n k) ∧ W.cell? ⟨w.heap.size, 2, none⟩ = some (.slice B m q)) (st3 w9 (w.heap.size + 1) (.int .i64 v) (.slice A8 n5 k8) (.slice B9 m5 q9)) := ⟨(st3_cell (by omega) _ _ _).trans hX9.c.1, (st3_cell (by omega) _ _ _).trans hX9.c.2.1, (st3_cell (by omega) _ _ _).trans hX9.c.2.2⟩
      unfold st3 at hTf hCf hBf hSf
      generalize ((w9.setCell ⟨w.heap.size + 1, 0, none⟩ (.int .i64 v)).setCell ⟨w.heap.size + 1, 1, none⟩ (.slice A8 n5 k8)).setCell ⟨w.heap.size + 1, 2, none⟩ (.slice B9 m5 q9) = W7 at hTf hCf hBf hSf ⊢
      refine ⟨fun _ => hSf, ?_⟩
      refine wt_known (N := 14) (by kernel_rfl) (by (repeat (refine sz_put ?_)); assumption) [(2, .pointer (some ⟨w.heap.size + 1, 0, none⟩))] ⟨(by (repeat (first | (refine slot_hit (N := 14) ?_ (by rfl); (repeat (refine sz_put ?_)); assumption; done) | (apply slot_miss; focus rfl))); all_goals assumption), trivial⟩ fun fv fl hfl => ?_; obtain rfl : fl = [fv 0, fv 1, (.pointer (some ⟨w.heap.size + 1, 0, none⟩) : Value), fv 3, fv 4, fv 5, fv 6, fv 7, fv 8, fv 9, fv 10, fv 11, fv 12, fv 13] := hfl.symm.trans (by kernel_rfl); clear hfl
      have z0 : W7.cell? ⟨w.heap.size + 1, 0, none⟩ = some (.int .i64 v) := hCf.cell 0
      have z1 : W7.cell? ⟨w.heap.size + 1, 1, none⟩ = some (.slice A8 n5 k8) := hCf.cell 1
      have z2 : W7.cell? ⟨w.heap.size + 1, 2, none⟩ = some (.slice B9 m5 q9) := hCf.cell 2
      have HF := Lib.hid (And.intro hTf hBf)
      clear hCf hTf hBf hSf hT9 hX9 d0 d1 d2 f0 f1 f2 hS0
      go_wp2
      refine bodyPost_ret (v := .agg #[.int .i64 v, .slice A8 n5 k8, .slice B9 m5 q9]) (by simp [results, Tryd.results11, go_sem, z0, z1, z2]) rfl ?_
      exact ⟨_, _, rfl, ⟨HF.out.1.o1.base (by omega), HF.out.1.o2.base (by omega), HF.out.1.ap⟩, HF.out.2⟩
  · have hT1 := (Two.nil (w.heap.size + 2) W0.drew).new2 hX0.z
    have hX1 := hX0.on (bx_on W0.drew (.cells #[] 3))
    have hS0 : (fun W : World => W.cell? ⟨w.heap.size, 0, none⟩ = some (.int .i64 v) ∧ W.cell? ⟨w.heap.size, 1, none⟩ = some (.slice A n k) ∧ W.cell? ⟨w.heap.size, 2, none⟩ = some (.slice B m q)) (W0.drew.alloc (.cells #[] 3)) := hX1.c
    refine wt_val0 2  (by kernel_rfl) rfl rfl rfl  (v := ?_) (w' := ?_) (fun ev hk  => ?_) ?_; rotate_left 2; focus (go_simp; first | rfl | (constructor <;> rfl))
    have hT2 := hT1.new1 hX1.z
    rw [show (W0.drew.alloc (.cells #[] 3)).heap.size = W0.heap.size + 1 from World.size_alloc _ _] at hT2
    have hX2 := hX1.on (bx_on (W0.drew.alloc (.cells #[] 3)) (.cells #[] 3))
    have hS0 : (fun W : World => W.cell? ⟨w.heap.size, 0, none⟩ = some (.int .i64 v) ∧ W.cell? ⟨w.heap.size, 1, none⟩ = some (.slice A n k) ∧ W.cell? ⟨w.heap.size, 2, none⟩ = some (.slice B m q)) ((W0.drew.alloc (.cells #[] 3)).alloc (.cells #[] 3)) := hX2.c
    refine ⟨fun _ => hS0, ?_⟩
    refine wt_append13 5 5 7 (by kernel_rfl) rfl rfl rfl (by (repeat (first | (refine slot_hit (N := 14) ?_ (by rfl); (repeat (refine sz_put ?_)); assumption; done) | (apply slot_miss; focus rfl))); all_goals assumption) (by (repeat (first | (refine slot_hit (N := 14) ?_ (by rfl); (repeat (refine sz_put ?_)); assumption; done) | (apply slot_miss; focus rfl))); all_goals assumption) rfl (tw_app1 hT2 hX2 HN.out.1 HI.out.1 (by have := HI.out.2.2.1; simp; omega)) (fun v8 w8 hR8 => ?_)
    obtain ⟨hT8', hX8'⟩ := hR8
    refine ⟨fun _ => hX8'.c, ?_⟩
    refine wt_append13 9 9 11 (by kernel_rfl) rfl rfl rfl (by (repeat (first | (refine slot_hit (N := 14) ?_ (by rfl); (repeat (refine sz_put ?_)); assumption; done) | (apply slot_miss; focus rfl))); all_goals assumption) (by (repeat (first | (refine slot_hit (N := 14) ?_ (by rfl); (repeat (refine sz_put ?_)); assumption; done) | (apply slot_miss; focus rfl))); all_goals assumption) rfl (tw_app2 hT8' hX8' HN.out.2 HI.out.2.1 (by have := HI.out.2.2.2; simp; omega)) (fun v9 w9 hR9 => ?_)
    obtain ⟨hT9, hX9⟩ := hR9
    refine ⟨fun _ => hX9.c, ?_⟩
    rw [List.nil_append, List.nil_append] at hT9
    obtain ⟨A8, k8, rfl, _⟩ := hT9.o1.at
    obtain ⟨B9, q9, rfl, _⟩ := hT9.o2.at
    obtain ⟨n5, hn5⟩ : ∃ n5, n5 = t.length := ⟨_, rfl⟩
    obtain ⟨m5, hm5⟩ : ∃ m5, m5 = s.length := ⟨_, rfl⟩
    rw [← hn5, ← hm5] at hT9
    rw [← hn5, ← hm5]
    clear hn5 hm5
    have hS0 : (fun W : World => W.cell? ⟨w.heap.size, 0, none⟩ = some (.int .i64 v) ∧ W.cell? ⟨w.heap.size, 1, none⟩ = some (.slice A n k) ∧ W.cell? ⟨w.heap.size, 2, none⟩ = some (.slice B m q)) w9 := hX9.c
    (refine wt_take3 10 4 8 12 (v := ?_) rfl rfl (by kernel_rfl) (by kernel_rfl) (by kernel_rfl) (by kernel_rfl) (fun _ _ _ h => h) rfl hS0 (by (repeat (first | (refine slot_hit (N := 14) ?_ (by rfl); (repeat (refine sz_put ?_)); assumption; done) | (apply slot_miss; focus rfl))); all_goals assumption) (by (repeat (first | (refine slot_hit (N := 14) ?_ (by rfl); (repeat (refine sz_put ?_)); assumption; done) | (apply slot_miss; focus rfl))); all_goals assumption) (by (repeat (first | (refine slot_hit (N := 14) ?_ (by rfl); (repeat (refine sz_put ?_)); assumption; done) | (apply slot_miss; focus rfl))); all_goals assumption) (fun ev hk hv0 hv1 hv2 w hS => ?_) ?_; rotate_left; focus (obtain ⟨j0, j1, j2⟩ := hS; go_simp; rfl))
    obtain ⟨d0, d1, d2, f0, f1, f2⟩ := hX9.d
    refine wt_act2 11 2 13 (by kernel_rfl) rfl rfl rfl (by (repeat (first | (refine slot_hit (N := 14) ?_ (by rfl); (repeat (refine sz_put ?_)); assumption; done) | (apply slot_miss; focus rfl))); all_goals assumption) (by (repeat (first | (refine slot_hit (N := 14) ?_ (by rfl); (repeat (refine sz_put ?_)); assumption; done) | (apply slot_miss; focus rfl))); all_goals assumption) (w' := ?_) (fun ev hk hv0 hv1 => ?_) ?_; rotate_left; focus (go_simp; rfl)
    have hTf := hT9.st3 (show w.heap.size + 1 < w.heap.size + 2 by omega) (.int .i64 v) (.slice A8 n5 k8) (.slice B9 m5 q9)
    have hCf := st3_has hX9.h2 (.int .i64 v) (.slice A8 n5 k8) (.slice B9 m5 q9)
    have hBf := st3_below hX9.b (Nat.le_succ _) (.int .i64 v) (.slice A8 n5 k8) (.slice B9 m5 q9)
    have hSf : (fun W : World => W.cell? ⟨w.heap.size, 0, none⟩ = some (.int .i64 v) ∧ W.cell? ⟨w.heap.size, 1, none⟩ = some (.slice A n k) ∧ W.cell? ⟨w.heap.size, 2, none⟩ = some (.slice B m q)) (st3 w9 (w.heap.size + 1) (.int .i64 v) (.slice A8 n5 k8) (.slice B9 m5 q9)) := ⟨(st3_cell (by omega) _ _ _).trans hX9.c.1, (st3_cell (by omega) _ _ _).trans hX9.c.2.1, (st3_cell (by omega) _ _ _).trans hX9.c.2.2⟩
    unfold st3 at hTf hCf hBf hSf
    generalize ((w9.setCell ⟨w.heap.size + 1, 0, none⟩ (.int .i64 v)).setCell ⟨w.heap.size + 1, 1, none⟩ (.slice A8 n5 k8)).setCell ⟨w.heap.size + 1, 2, none⟩ (.slice B9 m5 q9) = W7 at hTf hCf hBf hSf ⊢
    refine ⟨fun _ => hSf, ?_⟩
    refine wt_known (N := 14) (by kernel_rfl) (by (repeat (refine sz_put ?_)); assumption) [(2, .pointer (some ⟨w.heap.size + 1, 0, none⟩))] ⟨(by (repeat (first | (refine slot_hit (N := 14) ?_ (by rfl); (repeat (refine sz_put ?_)); assumption; done) | (apply slot_miss; focus rfl))); all_goals assumption), trivial⟩ fun fv fl hfl => ?_; obtain rfl : fl = [fv 0, fv 1, (.pointer (some ⟨w.heap.size + 1, 0, none⟩) : Value), fv 3, fv 4, fv 5, fv 6, fv 7, fv 8, fv 9, fv 10, fv 11, fv 12, fv 13] := hfl.symm.trans (by kernel_rfl); clear hfl
    have z0 : W7.cell? ⟨w.heap.size + 1, 0, none⟩ = some (.int .i64 v) := hCf.cell 0
    have z1 : W7.cell? ⟨w.heap.size + 1, 1, none⟩ = some (.slice A8 n5 k8) := hCf.cell 1
    have z2 : W7.cell? ⟨w.heap.size + 1, 2, none⟩ = some (.slice B9 m5 q9) := hCf.cell 2
    have HF := Lib.hid (And.intro hTf hBf)
    clear hCf hTf hBf hSf hT9 hX9 d0 d1 d2 f0 f1 f2 hS0
    go_wp2
    refine bodyPost_ret (v := .agg #[.int .i64 v, .slice A8 n5 k8, .slice B9 m5 q9]) (by simp [results, Tryd.results11, go_sem, z0, z1, z2]) rfl ?_
    exact ⟨_, _, rfl, ⟨HF.out.1.o1.base (by omega), HF.out.1.o2.base (by omega), HF.out.1.ap⟩, HF.out.2⟩

end Go.Proofs.YtecmldnigohjfaaDoor

namespace Go.Proofs.YtecmldnigohjfaaDoor
open Go Go.RowKit
set_option linter.unusedVariables false
set_option linter.unusedSimpArgs false

end Go.Proofs.YtecmldnigohjfaaDoor

namespace Go.Proofs.YtecmldnigohjfaaDoor
open Go Go.RowKit
set_option linter.unusedVariables false
set_option linter.unusedSimpArgs false

end Go.Proofs.YtecmldnigohjfaaDoor

namespace Go.Proofs.YtecmldnigohjfaaDoor
open Go Go.RowKit
set_option linter.unusedVariables false
set_option linter.unusedSimpArgs false

theorem Io.setne {B : Nat} {w : World} {v : Value} {l : List Int} (h : Io B w v l) {q : Addr} (hq : ∀ k, v.ownBlock = some k → k ≠ q.block) (u : Value) : Io B (w.setCell q u) v l :=
  h.same fun g hg => Below.heap_setCell _ _ _ _ (hq g hg)
theorem set_below {B : Nat} {w : World} {q : Addr} (h : B ≤ q.block) (u : Value) : Below B w (w.setCell q u) := (Below.refl B w).setCell h u
theorem set_sz (w : World) (q : Addr) (u : Value) : (w.setCell q u).heap.size = w.heap.size := by simp [World.setCell]

set_option maxRecDepth 100000 in
set_option maxHeartbeats 4000000 in
theorem rWith_any (v : Int) (A : Option Addr) (t : List Int) (k : Nat) (B : Option Addr) (s : List Int) (q : Nat) (x : Int) (w : World) (h : Ia w w.heap.size A t k) (hl : t.length ≤ 100000) (h' : Ia w w.heap.size B s q) (hl' : s.length ≤ 100000) :
    Calls Tryd.prog 29 #[asv v A t.length k B s.length q, .int .i64 x, .bool true] w (TwIs v (t ++ [x]) (s ++ [(t.length : Int)]) w) := by
  have H0 := Bx2.new w (.int .i64 v) (.slice A t.length k) (.slice B s.length q)
  obtain ⟨n, hn⟩ : ∃ n, n = t.length := ⟨_, rfl⟩
  obtain ⟨m, hm⟩ : ∃ m, m = s.length := ⟨_, rfl⟩
  have HN := Lib.hid (And.intro hn (And.intro hm (And.intro hl hl')))
  have HX := Lib.hid H0
  rw [← hn, ← hm] at HX
  rw [← hn, ← hm]
  have HN2 := HN
  have D := twin14_any v A t k B s q (bx2 w (.int .i64 v) (.slice A t.length k) (.slice B s.length q)) (h.on H0.b) hl (h'.on H0.b) hl'
  unfold bx2 at D
  rw [← hn, ← hm] at D
  clear h hl h' hl' hn hm H0
  go_enter Tryd.func29, Tryd.ntmps29
  go_wp2_with (first
    | (go_at_call 11; (with_reducible refine D.mono ?_); rintro e w2 ⟨v1, v2, rfl, hT2, hb2⟩
       obtain ⟨A1, k1, rfl, _⟩ := hT2.o1.at
       obtain ⟨B2, q2, rfl, _⟩ := hT2.o2.at
       rw [← HN.out.1, ← HN.out.2.1] at hT2
       rw [← HN.out.1, ← HN.out.2.1]
       have hx2 := bx_on w2 (.cells #[.int .i64 v, .slice A1 n k1, .slice B2 m q2] 24)
       have hX2 := (HX.out.on hb2).on hx2
       have hC2 := Has.new w2 24 #[.int .i64 v, .slice A1 n k1, .slice B2 m q2]
       have hz2 : w.heap.size + 2 ≤ w2.heap.size := (HX.out.on hb2).z
       have hzb : (bx2 w (.int .i64 v) (.slice A n k) (.slice B m q)).heap.size = w.heap.size + 2 := by unfold bx2; simp
       have hT2' : Two (w.heap.size + 2) w2 (.slice A1 n k1) t (.slice B2 m q2) s := hzb ▸ hT2
       have H2 := Lib.hid (And.intro hX2 (And.intro hC2 (And.intro hz2 hT2')))
       clear hT2 hb2 hx2 hX2 hC2 hz2 hzb hT2')
    | (at_builtin; (refine append_own1 rfl (.tmp 12) (.tmp 16) rfl (w.heap.size + 2) (.slice B2 m q2) s n rfl (H2.out.2.2.2.o2.keep (bx_on _ _)) (by have := HN.out.2.2.2; omega) (by have := H2.out.2.2.1; simp; omega) (w2.heap.size + 1) (by simp) rfl ?_); intro v3 w3 ho3 hb3 hg3 hz3 hk3
       obtain ⟨B3, q3, rfl, _⟩ := ho3.at
       obtain ⟨m3, hm3⟩ : ∃ m3, m3 = (s ++ [(n : Int)]).length := ⟨_, rfl⟩
       rw [← hm3] at ho3 hk3 ⊢
       have hX3 := H2.out.1.far hb3
       have hC3 : Has w3 w2.heap.size 24 #[.int .i64 v, .slice A1 n k1, .slice B2 m q2] := (hg3 w2.heap.size (by simp) (fun e => by have := H2.out.2.2.2.o2.lt e; omega)).trans H2.out.2.1
       have hk3' : ∀ g, (Value.slice B3 m3 q3).ownBlock = some g → g ≠ w2.heap.size := fun g hg e => by
         rcases hk3 g hg with h | h
         · have := H2.out.2.2.2.o2.lt h; omega
         · simp at h; omega
       have ho1 : Io (w.heap.size + 2) w3 (.slice A1 n k1) t := H2.out.2.2.2.o1.same fun g hg => (hg3 g (by have := H2.out.2.2.2.o1.lt hg; simp; omega) (fun e => H2.out.2.2.2.ap g hg e)).trans (Below.heap_alloc _ _ _ (H2.out.2.2.2.o1.lt hg))
       have hap3 : ∀ g, (Value.slice A1 n k1).ownBlock = some g → (Value.slice B3 m3 q3).ownBlock ≠ some g := fun g hg h3 => by
         rcases hk3 g h3 with h | h
         · exact H2.out.2.2.2.ap g hg h
         · have := H2.out.2.2.2.o1.lt hg; simp at h; omega
       obtain ⟨y0, y1, y2⟩ := (show Bs w2.heap.size w3 _ _ _ from ⟨hC3⟩).c
       obtain ⟨f0, f1, f2⟩ := (show Bs w2.heap.size w3 _ _ _ from ⟨hC3⟩).f
       have H3 := Lib.hid (And.intro hX3 (And.intro hC3 (And.intro ho1 (And.intro ho3 (And.intro hap3 (And.intro hk3' hz3))))))
       clear ho3 hb3 hg3 hz3 hk3 hk3' hX3 hC3 ho1 hap3 hm3)
    | (at_builtin; (refine append_own1 (w := w3.setCell ⟨w2.heap.size, 2, none⟩ (.slice B3 m3 q3)) rfl (.tmp 20) (.tmp 22) rfl (w.heap.size + 2) (.slice A1 n k1) t x rfl (H3.out.2.2.1.setne (fun g hg e => by have := H2.out.2.2.2.o1.lt hg; simp at e; omega) _) (by have := HN.out.2.2.1; omega) (by rw [set_sz]; exact H3.out.1.z) w3.heap.size (by rw [set_sz]) rfl ?_); intro v4 w4 ho4 hb4 hg4 hz4 hk4
       obtain ⟨A4, k4, rfl, _⟩ := ho4.at
       obtain ⟨n4, hn4⟩ : ∃ n4, n4 = (t ++ [x]).length := ⟨_, rfl⟩
       rw [← hn4] at ho4 hk4 ⊢
       rw [set_sz] at hg4 hz4 hk4
       have hg3z : w2.heap.size < w3.heap.size := H3.out.2.1.lt
       have hX4 := (H3.out.1.far (set_below (q := ⟨w2.heap.size, 2, none⟩) H2.out.2.2.1 (.slice B3 m3 q3))).far hb4
       have hC4 : Has w4 w2.heap.size 24 #[.int .i64 v, .slice A1 n k1, .slice B3 m3 q3] := (hg4 w2.heap.size hg3z (fun e => by have := H2.out.2.2.2.o1.lt e; omega)).trans (H3.out.2.1.set 2 (.slice B3 m3 q3))
       have ho3' : Io (w.heap.size + 2) w4 (.slice B3 m3 q3) (s ++ [(n : Int)]) := (H3.out.2.2.2.1.setne (q := ⟨w2.heap.size, 2, none⟩) (fun g hg => H3.out.2.2.2.2.2.1 g hg) (.slice B3 m3 q3)).same fun g hg => hg4 g (H3.out.2.2.2.1.lt hg) (fun e => H3.out.2.2.2.2.1 g e hg)
       have hk4' : ∀ g, (Value.slice A4 n4 k4).ownBlock = some g → g ≠ w2.heap.size := fun g hg e => by
         rcases hk4 g hg with h | h
         · have := H2.out.2.2.2.o1.lt h; omega
         · omega
       have hap4 : ∀ g, (Value.slice A4 n4 k4).ownBlock = some g → (Value.slice B3 m3 q3).ownBlock ≠ some g := fun g hg h3 => by
         rcases hk4 g hg with h | h
         · exact H3.out.2.2.2.2.1 g h h3
         · have := H3.out.2.2.2.1.lt h3; omega
       obtain ⟨z0, z1, z2⟩ := (show Bs w2.heap.size w4 _ _ _ from ⟨hC4⟩).c
       obtain ⟨g0, g1, g2⟩ := (show Bs w2.heap.size w4 _ _ _ from ⟨hC4⟩).f
       obtain ⟨d0, d1, d2, e0, e1, e2⟩ := hX4.d
       have hne : ¬ (w2.heap.size = w.heap.size + 1) := by have := H2.out.2.2.1; omega
       have hne2 : ¬ (w.heap.size + 1 = w2.heap.size) := fun e => hne e.symm
       have H4 := Lib.hid (And.intro hX4 (And.intro ho4 (And.intro ho3' (And.intro hap4 (And.intro hk4' (fun g hg => H3.out.2.2.2.2.2.1 g hg))))))
       clear ho4 hb4 hg4 hz4 hk4 hk4' hX4 hC4 ho3' hap4 hn4 hg3z))
  refine bodyPost_ret (v := .agg #[.int .i64 v, .slice A4 n4 k4, .slice B3 m3 q3]) (by simp [results, Tryd.results29, go_sem, d0, d1, d2, hne, hne2]) rfl ?_
  have hsb := set_below (w := w4) (q := ⟨w2.heap.size, 1, none⟩) H2.out.2.2.1 (.slice A4 n4 k4)
  refine ⟨_, _, rfl, ⟨(((H4.out.2.1.setne (q := ⟨w2.heap.size, 1, none⟩) (fun g hg => H4.out.2.2.2.2.1 g hg) _).st3 (by omega) _ _ _).base (by omega)), (((H4.out.2.2.1.setne (q := ⟨w2.heap.size, 1, none⟩) (fun g hg => H4.out.2.2.2.2.2 g hg) _).st3 (by omega) _ _ _).base (by omega)), H4.out.2.2.2.1⟩, ?_⟩
  exact st3_below (H4.out.1.b.trans (hsb.mono (by omega))) (Nat.le_succ _) _ _ _

set_option maxRecDepth 100000 in
set_option maxHeartbeats 4000000 in
theorem rWithF_any (v : Int) (A : Option Addr) (t : List Int) (k : Nat) (B : Option Addr) (s : List Int) (q : Nat) (x : Int) (w : World) (h : Ia w w.heap.size A t k) (hl : t.length ≤ 100000) (h' : Ia w w.heap.size B s q) (hl' : s.length ≤ 100000) :
    Calls Tryd.prog 29 #[asv v A t.length k B s.length q, .int .i64 x, .bool false] w (TwIs v (t ++ [x]) s w) := by
  have H0 := Bx2.new w (.int .i64 v) (.slice A t.length k) (.slice B s.length q)
  obtain ⟨n, hn⟩ : ∃ n, n = t.length := ⟨_, rfl⟩
  obtain ⟨m, hm⟩ : ∃ m, m = s.length := ⟨_, rfl⟩
  have HN := Lib.hid (And.intro hn (And.intro hm (And.intro hl hl')))
  have HX := Lib.hid H0
  rw [← hn, ← hm] at HX
  rw [← hn, ← hm]
  have HN2 := HN
  have D := twin14_any v A t k B s q (bx2 w (.int .i64 v) (.slice A t.length k) (.slice B s.length q)) (h.on H0.b) hl (h'.on H0.b) hl'
  unfold bx2 at D
  rw [← hn, ← hm] at D
  clear h hl h' hl' hn hm H0
  go_enter Tryd.func29, Tryd.ntmps29
  go_wp2_with (first
    | (go_at_call 11; (with_reducible refine D.mono ?_); rintro e w2 ⟨v1, v2, rfl, hT2, hb2⟩
       obtain ⟨A1, k1, rfl, _⟩ := hT2.o1.at
       obtain ⟨B2, q2, rfl, _⟩ := hT2.o2.at
       rw [← HN.out.1, ← HN.out.2.1] at hT2
       rw [← HN.out.1, ← HN.out.2.1]
       have hx2 := bx_on w2 (.cells #[.int .i64 v, .slice A1 n k1, .slice B2 m q2] 24)
       have hX2 := (HX.out.on hb2).on hx2
       have hC2 := Has.new w2 24 #[.int .i64 v, .slice A1 n k1, .slice B2 m q2]
       have hz2 : w.heap.size + 2 ≤ w2.heap.size := (HX.out.on hb2).z
       have hzb : (bx2 w (.int .i64 v) (.slice A n k) (.slice B m q)).heap.size = w.heap.size + 2 := by unfold bx2; simp
       have hT2' : Two (w.heap.size + 2) w2 (.slice A1 n k1) t (.slice B2 m q2) s := hzb ▸ hT2
       have H2 := Lib.hid (And.intro hX2 (And.intro hC2 (And.intro hz2 hT2')))
       clear hT2 hb2 hx2 hX2 hC2 hz2 hzb hT2')
    | (at_builtin; (refine append_own1 rfl (.tmp 20) (.tmp 22) rfl (w.heap.size + 2) (.slice A1 n k1) t x rfl (H2.out.2.2.2.o1.keep (bx_on _ _)) (by have := HN.out.2.2.1; omega) (by have := H2.out.2.2.1; simp; omega) (w2.heap.size + 1) (by simp) rfl ?_); intro v4 w4 ho4 hb4 hg4 hz4 hk4
       obtain ⟨A4, k4, rfl, _⟩ := ho4.at
       obtain ⟨n4, hn4⟩ : ∃ n4, n4 = (t ++ [x]).length := ⟨_, rfl⟩
       rw [← hn4] at ho4 hk4 ⊢
       have hX4 := H2.out.1.far hb4
       have hC4 : Has w4 w2.heap.size 24 #[.int .i64 v, .slice A1 n k1, .slice B2 m q2] := (hg4 w2.heap.size (by simp) (fun e => by have := H2.out.2.2.2.o1.lt e; omega)).trans H2.out.2.1
       have ho3' : Io (w.heap.size + 2) w4 (.slice B2 m q2) s := H2.out.2.2.2.o2.same fun g hg => (hg4 g (by have := H2.out.2.2.2.o2.lt hg; simp; omega) (fun e => H2.out.2.2.2.ap g e hg)).trans (Below.heap_alloc _ _ _ (H2.out.2.2.2.o2.lt hg))
       have hk4' : ∀ g, (Value.slice A4 n4 k4).ownBlock = some g → g ≠ w2.heap.size := fun g hg e => by
         rcases hk4 g hg with h | h
         · have := H2.out.2.2.2.o1.lt h; omega
         · simp at h; omega
       have hap4 : ∀ g, (Value.slice A4 n4 k4).ownBlock = some g → (Value.slice B2 m q2).ownBlock ≠ some g := fun g hg h3 => by
         rcases hk4 g hg with h | h
         · exact H2.out.2.2.2.ap g h h3
         · have := H2.out.2.2.2.o2.lt h3; simp at h; omega
       obtain ⟨z0, z1, z2⟩ := (show Bs w2.heap.size w4 _ _ _ from ⟨hC4⟩).c
       obtain ⟨g0, g1, g2⟩ := (show Bs w2.heap.size w4 _ _ _ from ⟨hC4⟩).f
       obtain ⟨d0, d1, d2, e0, e1, e2⟩ := hX4.d
       have hne : ¬ (w2.heap.size = w.heap.size + 1) := by have := H2.out.2.2.1; omega
       have hne2 : ¬ (w.heap.size + 1 = w2.heap.size) := fun e => hne e.symm
       have H4 := Lib.hid (And.intro hX4 (And.intro ho4 (And.intro ho3' (And.intro hap4 (And.intro hk4' (fun g (hg : (Value.slice B2 m q2).ownBlock = some g) => (Nat.ne_of_lt (H2.out.2.2.2.o2.lt hg))))))))
       clear ho4 hb4 hg4 hz4 hk4 hk4' hX4 hC4 ho3' hap4 hn4))
  refine bodyPost_ret (v := .agg #[.int .i64 v, .slice A4 n4 k4, .slice B2 m q2]) (by simp [results, Tryd.results29, go_sem, d0, d1, d2, hne, hne2]) rfl ?_
  have hsb := set_below (w := w4) (q := ⟨w2.heap.size, 1, none⟩) H2.out.2.2.1 (.slice A4 n4 k4)
  refine ⟨_, _, rfl, ⟨(((H4.out.2.1.setne (q := ⟨w2.heap.size, 1, none⟩) (fun g hg => H4.out.2.2.2.2.1 g hg) _).st3 (by omega) _ _ _).base (by omega)), (((H4.out.2.2.1.setne (q := ⟨w2.heap.size, 1, none⟩) (fun g hg => H4.out.2.2.2.2.2 g hg) _).st3 (by omega) _ _ _).base (by omega)), H4.out.2.2.2.1⟩, ?_⟩
  exact st3_below (H4.out.1.b.trans (hsb.mono (by omega))) (Nat.le_succ _) _ _ _


end Go.Proofs.YtecmldnigohjfaaDoor

namespace Go.Proofs.YtecmldnigohjfaaDoor
open Go Go.RowKit
set_option linter.unusedVariables false
set_option linter.unusedSimpArgs false

/-- a law's argument -/
theorem Nw.arg {w : World} {A : Option Addr} {n k : Nat} {t : List Int} {B : Option Addr} {m q : Nat} {s : List Int} (h : Ia w w.heap.size A t k) (h' : Ia w w.heap.size B s q) (hn : n = t.length) (hm : m = s.length) : Nw 0 w A n k t B m q s :=
  ⟨h, h', hn, hm, fun _ _ => Nat.zero_le _, fun _ _ => Nat.zero_le _⟩
theorem Nw.rcheck {b : Nat} {W : World} {A B : Option Addr} {n k m q : Nat} {t s : List Int} (h : Nw b W A n k t B m q s) (hn : n ≤ 100000) (hm : m ≤ 100000) (v : Int) :
    Calls Tryd.prog 21 #[asv v A n k B m q] W fun e w' => e = .returned (.int .i64 (aE v t s)) ∧ Below W.heap.size W w' := by
  have := h.nt
  have := h.ms
  have h1 := rCheck14_any v A t k B s q W h.ti (by omega) h.si (by omega)
  rw [← h.nt, ← h.ms] at h1
  exact h1
section
variable {b : Nat} {W : World} {A B : Option Addr} {n k m q : Nat} {t s : List Int}
theorem TwIs.nw {v : Int} {w : World} {en : Ending} {w' : World} (h : TwIs v t s w en w') (hn : n = t.length) (hm : m = s.length) : ∃ A k B q, en = .returned (asv v A n k B m q) ∧ Nw w.heap.size w' A n k t B m q s ∧ Below w.heap.size w w' := by
  subst hn hm
  obtain ⟨v1, v2, rfl, h2, h3⟩ := h
  obtain ⟨A, k, rfl, hI⟩ := h2.o1.at
  obtain ⟨B, q, rfl, hJ⟩ := h2.o2.at
  exact ⟨A, k, B, q, rfl, ⟨hI, hJ, rfl, rfl, fun a e => by subst e; exact h2.o1.blk _ rfl, fun a e => by subst e; exact h2.o2.blk _ rfl⟩, h3⟩
theorem Nw.twin (h : Nw b W A n k t B m q s) (hn : n ≤ 100000) (hm : m ≤ 100000) (v : Int) :
    Calls Tryd.prog 11 #[asv v A n k B m q] W fun e w' => ∃ A' k' B' q', e = .returned (asv v A' n k' B' m q') ∧ Nw W.heap.size w' A' n k' t B' m q' s ∧ Below W.heap.size W w' := by
  have := h.nt
  have := h.ms
  have h1 := twin14_any v A t k B s q W h.ti (by omega) h.si (by omega)
  rw [← h.nt, ← h.ms] at h1
  exact h1.mono fun e w' hh => hh.nw h.nt h.ms
end

end Go.Proofs.YtecmldnigohjfaaDoor
