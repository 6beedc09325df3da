/- The reference's contracts: Undone. -/
import Derived.Test.YtcmdongdjacgbaaAsTell5
import Derived.Deep.DeepCutAuto
import Derived.Deep.CutBlock
namespace Go.Proofs.Ytcmdongdjacgbaa
open Go Go.RowKit
set_option linter.unusedVariables false
set_option linter.unusedSimpArgs false

/-- append to what a call owns: what else is said of it -/
theorem io_app_g {W : World} {b : Nat} {v : Value} {l : List Int} (h : Io b W v l) (hb : b ≤ W.heap.size) {A : Option Addr} {n k : Nat} {m : List Int} (hn : n = m.length) (hs : Src W A m.length k (iC m)) (hle : l.length + m.length ≤ 1000000) (ty : TypeId) :
    ∃ v' w', (Builtin.append_ #[22, 22] ty #[v, .slice A n k]).run Try.prog W = .ok v' w' ∧ Io b w' v' (l ++ m) ∧ Below b W w' ∧ (∀ g, g < W.heap.size → v.ownBlock ≠ some g → w'.heap[g]? = W.heap[g]?) ∧ W.heap.size ≤ w'.heap.size ∧ ∀ k, v'.ownBlock = some k → v.ownBlock = some k ∨ W.heap.size ≤ k := by
  obtain ⟨i0, hi0, hzz0, hs0, hy0⟩ := info_parts info_int
  subst hn
  rcases hs with ⟨rfl, h1, rfl, h3⟩ | ⟨ad, rfl, hc⟩
  · have hm : m = [] := List.eq_nil_of_length_eq_zero h1
    subst hm
    exact ⟨v, W, run_append_owned_none (P := Try.prog) (w := W) b 22 ty 3 i0 1 Try.underlying22 hi0 v l.length (iC l) h, by simpa using h, Below.refl _ _, fun _ _ _ => rfl, Nat.le_refl _, fun k hk => Or.inl hk⟩
  · obtain ⟨v', w', hr, h2, h3, _, h5⟩ := run_append_own_at (P := Try.prog) W b 22 ty 3 i0 (.int .i64 0) 1 8 Try.underlying22 hi0 hzz0 hs0 hy0 rfl (by decide) v l.length (iC l) h ad m.length k (iC m) (by rw [iC_len]) hc (iC_one m) (by simp only [maxLen]; omega) (by omega) hb
    refine ⟨v', w', hr, Io.mk h2 (by rw [List.length_append]) (by rw [iC_app]), (Below.refl b W).grown h3 hb (fun k hk => h.blk k hk), fun g hg hne => h3.block g hg (fun e => hne e.symm), h3.size, fun k hk => ?_⟩
    rcases h5 with h5 | h5
    · exact Or.inl (h5 ▸ hk)
    · rw [h5] at hk
      injection hk with hk
      exact Or.inr (by omega)
/-- the box of what comes out, and its lists -/
structure Ub (w W : World) (x0 x1 x2 : Value) (g : Nat) (v : Int) (v1 : Value) (l1 : List Int) (v2 : Value) (l2 : List Int) : Prop where
  x : Bx2 w x0 x1 x2 W
  h : Has W g 24 #[.int .i64 v, v1, v2]
  t : Two (w.heap.size + 2) W v1 l1 v2 l2
  g2 : w.heap.size + 2 ≤ g
  a1 : ∀ b, v1.ownBlock = some b → b ≠ g
  a2 : ∀ b, v2.ownBlock = some b → b ≠ g
section
variable {w W W' : World} {x0 x1 x2 : Value} {g : Nat} {v : Int} {v1 v2 : Value} {l1 l2 : List Int}
theorem ub_store {u0 u1 u2 : Value} (hX : Bx2 w x0 x1 x2 W) (hH : Has W g 24 #[u0, u1, u2]) (hg : w.heap.size + 2 ≤ g) (hO : Io (w.heap.size + 2) W v2 l2) (ha : ∀ b, v2.ownBlock = some b → b ≠ g) :
    Ub w (((W.setCell ⟨g, 0, none⟩ (.int .i64 v)).setCell ⟨g, 1, none⟩ (.slice none 0 0)).setCell ⟨g, 2, none⟩ v2) x0 x1 x2 g v (.slice none 0 0) [] v2 l2 := by
  refine ⟨hX.far ?_, st3_has hH _ _ _, ⟨Io.nil _ _, ?_, fun g h => by cases h⟩, hg, (fun b h => by cases h), ha⟩
  · exact (((Below.refl _ _).setCell (p := ⟨g, 0, none⟩) hg _).setCell (p := ⟨g, 1, none⟩) hg _).setCell (p := ⟨g, 2, none⟩) hg _
  · exact ((hO.setne (q := ⟨g, 0, none⟩) ha _).setne (q := ⟨g, 1, none⟩) ha _).setne (q := ⟨g, 2, none⟩) ha _
theorem ub_new (hX : Bx2 w x0 x1 x2 W) (hO : Io (w.heap.size + 2) W v2 l2) : Ub w (W.alloc (.cells #[.int .i64 v, .slice none 0 0, v2] 24)) x0 x1 x2 W.heap.size v (.slice none 0 0) [] v2 l2 :=
  ⟨hX.on (bx_on _ _), Has.new _ _ _, ⟨Io.nil _ _, hO.keep (bx_on _ _), fun g h => by cases h⟩, hX.z, (fun b h => by cases h), fun b hb => Nat.ne_of_lt (hO.lt hb)⟩
theorem Ub.on (h : Ub w W x0 x1 x2 g v v1 l1 v2 l2) (hb : Below W.heap.size W W') : Ub w W' x0 x1 x2 g v v1 l1 v2 l2 := ⟨h.x.on hb, h.h.keep hb h.h.lt, ⟨h.t.o1.keep hb, h.t.o2.keep hb, h.t.ap⟩, h.g2, h.a1, h.a2⟩
theorem Ub.drew (h : Ub w W x0 x1 x2 g v v1 l1 v2 l2) : Ub w W.drew x0 x1 x2 g v v1 l1 v2 l2 := ⟨⟨h.x.b.drew, h.x.z, h.x.h1, h.x.h2⟩, h.h, h.t.drew, h.g2, h.a1, h.a2⟩
/-- a literal more, its box stored -/
theorem Ub.app (h : Ub w W x0 x1 x2 g v v1 l1 v2 l2) {v' : Value} {w' : World} {y : Int} (h2 : Io (w.heap.size + 2) w' v' (l1 ++ [y])) (h3 : Below (w.heap.size + 2) W w') (h4 : ∀ g, g < W.heap.size → v1.ownBlock ≠ some g → w'.heap[g]? = W.heap[g]?) (h6 : ∀ k, v'.ownBlock = some k → v1.ownBlock = some k ∨ W.heap.size < k) :
    Has w' g 24 #[.int .i64 v, v1, v2] ∧ Ub w (w'.setCell ⟨g, 1, none⟩ v') x0 x1 x2 g v v' (l1 ++ [y]) v2 l2 := by
  have hH : Has w' g 24 #[.int .i64 v, v1, v2] := (h4 g h.h.lt (fun e => h.a1 g e rfl)).trans h.h
  have hk : ∀ b, v'.ownBlock = some b → b ≠ g := fun b hb e => by
    rcases h6 b hb with h | h
    · exact Ub.a1 ‹_› b h e
    · have := Ub.h ‹_› |>.lt; omega
  refine ⟨hH, (h.x.far h3).far (set_below (q := ⟨g, 1, none⟩) h.g2 _), ?_, ⟨h2.setne (q := ⟨g, 1, none⟩) hk _, ?_, fun b hb h2b => ?_⟩, h.g2, hk, h.a2⟩
  · exact hH.set 1 v'
  · exact (h.t.o2.same fun g hg => h4 g (h.t.o2.lt hg) (fun e => h.t.ap g e hg)).setne (q := ⟨g, 1, none⟩) (fun b hb => h.a2 b hb) _
  · rcases h6 b hb with h' | h'
    · exact h.t.ap b h' h2b
    · have := h.t.o2.lt h2b; omega
theorem Ub.c (h : Ub w W x0 x1 x2 g v v1 l1 v2 l2) : W.cell? ⟨g, 0, none⟩ = some (.int .i64 v) ∧ W.cell? ⟨g, 1, none⟩ = some v1 ∧ W.cell? ⟨g, 2, none⟩ = some v2 ∧ W.frozen? ⟨g, 1, none⟩ = false := ⟨h.h.cell 0, h.h.cell 1, h.h.cell 2, h.h.fz 1⟩
end

/-- append to a new list -/
theorem ub_app {w W : World} {x0 x1 x2 : Value} {v : Value} (h : Io (w.heap.size + 2) W v []) (hX : Bx2 w x0 x1 x2 W) {A : Option Addr} {n k : Nat} {m : List Int} (hn : n = m.length) (hs : Ia w w.heap.size A m k) (hle : m.length ≤ 1000000) (ty : TypeId) :
    ∃ v' w', (Builtin.append_ #[22, 22] ty #[v, .slice A n k]).run Try.prog W = .ok v' w' ∧ (Io (w.heap.size + 2) w' v' m ∧ Bx2 w x0 x1 x2 w' ∧ (∀ g, g < W.heap.size → v.ownBlock ≠ some g → w'.heap[g]? = W.heap[g]?) ∧ W.heap.size ≤ w'.heap.size ∧ ∀ k, v'.ownBlock = some k → v.ownBlock = some k ∨ W.heap.size ≤ k) := by
  obtain ⟨v', w', h1, h2, h3, h4, h5, h6⟩ := io_app_g h hX.z hn ((hs.on hX.b).src) (by simpa using hle) ty
  exact ⟨v', w', h1, by simpa using h2, hX.far h3, h4, h5, h6⟩

set_option maxRecDepth 100000 in
set_option maxHeartbeats 10000000 in
theorem rUndone_any (v : Int) (A : Option Addr) (t : List Int) (k : Nat) (B : Option Addr) (s : List Int) (q : Nat) (lv : Nat) (w : World) (h : Ia w w.heap.size A t k) (hl : t.length ≤ 100000) (h' : Ia w w.heap.size B s q) (hl' : s.length ≤ 100000) (ho : OkS t.length s) (hlv : lv ≤ s.length) :
    Calls Try.prog 31 #[asv v A t.length k B s.length q, .int .i64 (lv : Int)] w (TwIs v (t.take (usz t.length s lv)) (s.take lv) w) := by
  have H0 := (Bx2.new w (.int .i64 v) (.slice A t.length k) (.slice B s.length q)).on (below_dn (Below.refl _ _) 1)
  unfold bx2 at H0
  have DA := fun (j : Nat) (W : World) (hb : Below w.heap.size w W) => rAt_any v A t.length k B s q (j : Int) W (h'.on hb) hl'
  obtain ⟨B', hs1, hs2⟩ := h'.upto lv hlv
  obtain ⟨p, hp⟩ : ∃ p, p = (s.take lv).length := ⟨_, rfl⟩
  rw [← hp] at hs1
  obtain ⟨n, hn⟩ : ∃ n, n = t.length := ⟨_, rfl⟩
  obtain ⟨m, hm⟩ : ∃ m, m = s.length := ⟨_, rfl⟩
  rw [← hm] at hs1
  rw [← hn, ← hm] at H0 DA ⊢
  have hn1 : n ≤ 100000 := by rw [hn]; exact hl
  have hm1 : lv ≤ 100000 := by omega
  have HN := Lib.hid (And.intro hn (And.intro hm (And.intro hp (show p ≤ 100000 by rw [hp, List.length_take]; omega))))
  have HI := Lib.hid (And.intro h (And.intro hs2 (And.intro hl (And.intro ho hlv))))
  have HX0 := Lib.hid H0
  have HD := Lib.hid hs1
  clear h hl h' hl' hn hm hp hs2 hs1 ho H0
  go_enter Try.func31, Try.ntmps31
  go_wp2
  have hX0 := HX0.out
  generalize hW0 : ((w.alloc (.cells #[.int .i64 v, .slice A n k, .slice B m q] 24)).alloc (.cells #[.int .i64 0, .slice none 0 0, .slice none 0 0] 24)) = W0 at hX0 HX0 ⊢
  clear hW0 HX0
  have hX0 : Bx2 w (.int .i64 v) (.slice A n k) (.slice B m q) W0.drew := hX0
  go_cut [5] (fun u5 wx => ∃ g B1 q1, u5 = .pointer (some ⟨g, 0, none⟩) ∧ Ub w wx (.int .i64 v) (.slice A n k) (.slice B m q) g v (.slice none 0 0) [] (.slice B1 p q1) (s.take lv))
  case first =>
    have hS0 : (fun W : World => W.cell? ⟨w.heap.size, 0, none⟩ = some (.int .i64 v) ∧ W.cell? ⟨w.heap.size, 1, none⟩ = some (.slice A n k) ∧ W.cell? ⟨w.heap.size, 2, none⟩ = some (.slice B m q)) W0.drew := hX0.c
    refine wp_slots (fun f => Sz f 39 ∧ Slot f 1 (.int .i64 (lv : Int)) ∧ Slot f 2 (.pointer (some ⟨w.heap.size, 0, none⟩)) ∧ Slot f 4 (.pointer (some ⟨w.heap.size + 1, 0, none⟩))) ⟨⟨rfl, rfl⟩, ⟨rfl⟩, ⟨rfl⟩, ⟨rfl⟩⟩ fun a0 hA0 hR => ?_
    obtain ⟨hZ, hs1, hs2, hs4⟩ := hR
    have HA := Lib.hid hA0
    clear hA0
    refine wp_region_T (fun W : World => W.cell? ⟨w.heap.size, 0, none⟩ = some (.int .i64 v) ∧ W.cell? ⟨w.heap.size, 1, none⟩ = some (.slice A n k) ∧ W.cell? ⟨w.heap.size, 2, none⟩ = some (.slice B m q)) 10 (by kernel_rfl) ?_
    refine WT.h ?_
    (refine wt_take1 0 2 (v := ?_) rfl rfl (by kernel_rfl) (by kernel_rfl) (by kernel_rfl) (by kernel_rfl) (fun _ _ _ h => h) rfl hS0 (by (repeat (first | (refine slot_hit (N := 39) ?_ (by rfl); (repeat (refine sz_put ?_)); assumption; done) | (apply slot_miss; focus rfl))); all_goals assumption) (fun ev hk hv0 w hS => ?_) ?_; rotate_left; focus (obtain ⟨j0, j1, j2⟩ := hS; go_simp; rfl)); (refine wt_take1 1 7 (v := ?_) rfl rfl (by kernel_rfl) (by kernel_rfl) (by kernel_rfl) (by kernel_rfl) (fun _ _ _ h => h) rfl hS0 (by (repeat (first | (refine slot_hit (N := 39) ?_ (by rfl); (repeat (refine sz_put ?_)); assumption; done) | (apply slot_miss; focus rfl))); all_goals assumption) (fun ev hk hv0 w hS => ?_) ?_; rotate_left; focus (obtain ⟨j0, j1, j2⟩ := hS; go_simp; rfl)); (refine wt_take1 3 2 (v := ?_) rfl rfl (by kernel_rfl) (by kernel_rfl) (by kernel_rfl) (by kernel_rfl) (fun _ _ _ h => h) rfl hS0 (by (repeat (first | (refine slot_hit (N := 39) ?_ (by rfl); (repeat (refine sz_put ?_)); assumption; done) | (apply slot_miss; focus rfl))); all_goals assumption) (fun ev hk hv0 w hS => ?_) ?_; rotate_left; focus (obtain ⟨j0, j1, j2⟩ := hS; go_simp; rfl)); (refine wt_take1 4 10 (v := ?_) rfl rfl (by kernel_rfl) (by kernel_rfl) (by kernel_rfl) (by kernel_rfl) (fun _ _ _ h => h) rfl hS0 (by (repeat (first | (refine slot_hit (N := 39) ?_ (by rfl); (repeat (refine sz_put ?_)); assumption; done) | (apply slot_miss; focus rfl))); all_goals assumption) (fun ev hk hv0 w hS => ?_) ?_; rotate_left; focus (obtain ⟨j0, j1, j2⟩ := hS; go_simp; rfl)); (refine wt_move 5 1 rfl rfl (by kernel_rfl) (by kernel_rfl) (by kernel_rfl) (by kernel_rfl) (fun _ _ _ h => h) rfl hS0 (by (repeat (first | (refine slot_hit (N := 39) ?_ (by rfl); (repeat (refine sz_put ?_)); assumption; done) | (apply slot_miss; focus rfl))); all_goals assumption) rfl ?_)
    have HDo := HD.out
    (refine wt_take2 6 11 12 (v := ?_) rfl rfl (by kernel_rfl) (by kernel_rfl) (by kernel_rfl) (by kernel_rfl) (fun _ _ _ h => h) rfl hS0 (by (repeat (first | (refine slot_hit (N := 39) ?_ (by rfl); (repeat (refine sz_put ?_)); assumption; done) | (apply slot_miss; focus rfl))); all_goals assumption) (by (repeat (first | (refine slot_hit (N := 39) ?_ (by rfl); (repeat (refine sz_put ?_)); assumption; done) | (apply slot_miss; focus rfl))); all_goals assumption) (fun ev hk hv0 hv1 w hS => ?_) ?_; rotate_left; focus (go_simp; first | exact HDo _ | (rw [HDo]; done) | (simp only [HDo]; done) | rfl))
    refine ways_vv 2 9 (by kernel_rfl) rfl rfl rfl rfl rfl rfl (v := ?_) (wi := ?_) (u := ?_) (wj := ?_) (fun ev hk => ?_) (fun ev hk => ?_) ?_ ?_ ?_ ?_
    rotate_left 4
    focus (go_simp; first | rfl | (constructor <;> rfl))
    focus (go_simp; first | rfl | (constructor <;> rfl))
    · exact fun _ => (hX0.on (bx_on _ _)).c
    · exact fun _ => (hX0.on (bx_on _ _)).c
    · have hT1 := ((Two.nil (w.heap.size + 2) W0.drew).new1 hX0.z).o1
      have hX1 := hX0.on (bx_on W0.drew (.cells #[] 3))
      have hS0 : (fun W : World => W.cell? ⟨w.heap.size, 0, none⟩ = some (.int .i64 v) ∧ W.cell? ⟨w.heap.size, 1, none⟩ = some (.slice A n k) ∧ W.cell? ⟨w.heap.size, 2, none⟩ = some (.slice B m q)) (W0.drew.alloc (.cells #[] 3)) := hX1.c
      refine ways_av 7 9 13 9 (by kernel_rfl) rfl rfl rfl rfl rfl rfl (by (repeat (first | (refine slot_hit (N := 39) ?_ (by rfl); (repeat (refine sz_put ?_)); assumption; done) | (apply slot_miss; focus rfl))); all_goals assumption) (by (repeat (first | (refine slot_hit (N := 39) ?_ (by rfl); (repeat (refine sz_put ?_)); assumption; done) | (apply slot_miss; focus rfl))); all_goals assumption) rfl (ub_app hT1 hX1 HN.out.2.2.1 HI.out.2.1 (by have := HN.out.2.2; omega)) (u := ?_) (wj := ?_) (fun ev hk => ?_) (fun v' w' hR _ => hR.2.1.c) ?_ (fun v8 w8 hR => ?_) ?_
      rotate_left 2
      focus (go_simp; first | rfl | (constructor <;> rfl))
      · exact fun _ => (hX1.on (bx_on _ _)).c
      · obtain ⟨hO8, hX8, hh8, hz8, hk8⟩ := hR
        obtain ⟨B8, q8, rfl, _⟩ := hO8.at
        rw [← HN.out.2.2.1] at hO8 hk8 ⊢
        have hS0 : (fun W : World => W.cell? ⟨w.heap.size, 0, none⟩ = some (.int .i64 v) ∧ W.cell? ⟨w.heap.size, 1, none⟩ = some (.slice A n k) ∧ W.cell? ⟨w.heap.size, 2, none⟩ = some (.slice B m q)) w8 := hX8.c
        (refine wt_take2 8 8 14 (v := ?_) rfl rfl (by kernel_rfl) (by kernel_rfl) (by kernel_rfl) (by kernel_rfl) (fun _ _ _ h => h) rfl hS0 (by (repeat (first | (refine slot_hit (N := 39) ?_ (by rfl); (repeat (refine sz_put ?_)); assumption; done) | (apply slot_miss; focus rfl))); all_goals assumption) (by (repeat (first | (refine slot_hit (N := 39) ?_ (by rfl); (repeat (refine sz_put ?_)); assumption; done) | (apply slot_miss; focus rfl))); all_goals assumption) (fun ev hk hv0 hv1 w hS => ?_) ?_; rotate_left; focus (obtain ⟨j0, j1, j2⟩ := hS; go_simp; rfl))
        refine wt_val0 9  (by kernel_rfl) rfl rfl rfl  (v := ?_) (w' := ?_) (fun ev hk  => ?_) ?_; rotate_left 2; focus (go_simp; first | rfl | (constructor <;> rfl))
        have hX9 := hX8.on (bx_on w8 (.cells #[.int .i64 0, .slice none 0 0, .slice none 0 0] 24))
        have hS0 : (fun W : World => W.cell? ⟨w.heap.size, 0, none⟩ = some (.int .i64 v) ∧ W.cell? ⟨w.heap.size, 1, none⟩ = some (.slice A n k) ∧ W.cell? ⟨w.heap.size, 2, none⟩ = some (.slice B m q)) (w8.alloc (.cells #[.int .i64 0, .slice none 0 0, .slice none 0 0] 24)) := hX9.c
        refine ⟨fun _ => hS0, ?_⟩
        have hU := ub_new (v := v) hX8 hO8
        refine wt_act2 10 5 15 (by kernel_rfl) rfl rfl rfl (by (repeat (first | (refine slot_hit (N := 39) ?_ (by rfl); (repeat (refine sz_put ?_)); assumption; done) | (apply slot_miss; focus rfl))); all_goals assumption) (by (repeat (first | (refine slot_hit (N := 39) ?_ (by rfl); (repeat (refine sz_put ?_)); assumption; done) | (apply slot_miss; focus rfl))); all_goals assumption) (w' := ?_) (fun ev hk hv0 hv1 => ?_) ?_; rotate_left; focus (go_simp; rfl)
        refine ⟨fun h => absurd h (by decide), ?_⟩
        generalize w8.alloc (.cells #[.int .i64 v, .slice none 0 0, .slice B8 p q8] 24) = W7 at hU ⊢
        refine wt_done (by kernel_rfl) (NoPanic.normal ?_) _
        have ha := HA.out
        subst ha
        have HU := Lib.hid hU
        clear hZ hs1 hs2 hs4 hS0 hT1 hX1 hO8 hX8 hh8 hz8 hk8 hX9 hU
        go_wp2
        go_meet
        exact ⟨_, _, _, rfl, HU.out⟩
      · have hX2 := hX1.on (bx_on (W0.drew.alloc (.cells #[] 3)) (.cells #[.int .i64 0, .slice none 0 0, .slice none 0 0] 24))
        have hT2 := hT1.keep (bx_on (W0.drew.alloc (.cells #[] 3)) (.cells #[.int .i64 0, .slice none 0 0, .slice none 0 0] 24))
        have hS0 : (fun W : World => W.cell? ⟨w.heap.size, 0, none⟩ = some (.int .i64 v) ∧ W.cell? ⟨w.heap.size, 1, none⟩ = some (.slice A n k) ∧ W.cell? ⟨w.heap.size, 2, none⟩ = some (.slice B m q)) ((W0.drew.alloc (.cells #[] 3)).alloc (.cells #[.int .i64 0, .slice none 0 0, .slice none 0 0] 24)) := hX2.c
        refine wt_append13 7 9 13 (by kernel_rfl) rfl rfl rfl (by (repeat (first | (refine slot_hit (N := 39) ?_ (by rfl); (repeat (refine sz_put ?_)); assumption; done) | (apply slot_miss; focus rfl))); all_goals assumption) (by (repeat (first | (refine slot_hit (N := 39) ?_ (by rfl); (repeat (refine sz_put ?_)); assumption; done) | (apply slot_miss; focus rfl))); all_goals assumption) rfl (ub_app hT2 hX2 HN.out.2.2.1 HI.out.2.1 (by have := HN.out.2.2; omega)) (fun v8 w8 hR => ?_)
        obtain ⟨hO8, hX8, hh8, hz8, hk8⟩ := hR
        obtain ⟨B8, q8, rfl, _⟩ := hO8.at
        rw [← HN.out.2.2.1] at hO8 hk8 ⊢
        have hS0 : (fun W : World => W.cell? ⟨w.heap.size, 0, none⟩ = some (.int .i64 v) ∧ W.cell? ⟨w.heap.size, 1, none⟩ = some (.slice A n k) ∧ W.cell? ⟨w.heap.size, 2, none⟩ = some (.slice B m q)) w8 := hX8.c
        refine ⟨fun _ => hS0, ?_⟩
        (refine wt_take2 8 8 14 (v := ?_) rfl rfl (by kernel_rfl) (by kernel_rfl) (by kernel_rfl) (by kernel_rfl) (fun _ _ _ h => h) rfl hS0 (by (repeat (first | (refine slot_hit (N := 39) ?_ (by rfl); (repeat (refine sz_put ?_)); assumption; done) | (apply slot_miss; focus rfl))); all_goals assumption) (by (repeat (first | (refine slot_hit (N := 39) ?_ (by rfl); (repeat (refine sz_put ?_)); assumption; done) | (apply slot_miss; focus rfl))); all_goals assumption) (fun ev hk hv0 hv1 w hS => ?_) ?_; rotate_left; focus (obtain ⟨j0, j1, j2⟩ := hS; go_simp; rfl))
        have hH : Has w8 (W0.heap.size + 1) 24 #[.int .i64 0, .slice none 0 0, .slice none 0 0] := (hh8 (W0.heap.size + 1) (by simp) (fun e => by simp [Value.ownBlock] at e)).trans (Has.new' _ _ (by simp))
        have hU := ub_store (v := v) hX8 hH (by have := hX0.z; simp at this; omega) hO8 (fun b hb e => by rcases hk8 b hb with h | h <;> (simp [Value.ownBlock] at h; omega))
        obtain ⟨f0, f1, f2⟩ := (show Bs (W0.heap.size + 1) _ _ _ _ from ⟨hH⟩).f
        obtain ⟨e0, e1, e2⟩ := (show Bs (W0.heap.size + 1) _ _ _ _ from ⟨hH⟩).c
        refine wt_act2 10 5 15 (by kernel_rfl) rfl rfl rfl (by (repeat (first | (refine slot_hit (N := 39) ?_ (by rfl); (repeat (refine sz_put ?_)); assumption; done) | (apply slot_miss; focus rfl))); all_goals assumption) (by (repeat (first | (refine slot_hit (N := 39) ?_ (by rfl); (repeat (refine sz_put ?_)); assumption; done) | (apply slot_miss; focus rfl))); all_goals assumption) (w' := ?_) (fun ev hk hv0 hv1 => ?_) ?_; rotate_left; focus (go_simp; rfl)
        refine ⟨fun h => absurd h (by decide), ?_⟩
        generalize ((w8.setCell ⟨W0.heap.size + 1, 0, none⟩ (.int .i64 v)).setCell ⟨W0.heap.size + 1, 1, none⟩ (.slice none 0 0)).setCell ⟨W0.heap.size + 1, 2, none⟩ (.slice B8 p q8) = W7 at hU ⊢
        refine wt_done (by kernel_rfl) (NoPanic.normal ?_) _
        have ha := HA.out
        subst ha
        have HU := Lib.hid hU
        clear hZ hs1 hs2 hs4 hS0 hT1 hX1 hO8 hX8 hh8 hz8 hk8 hX2 hT2 hH hU f0 f1 f2 e0 e1 e2
        go_wp2
        go_meet
        exact ⟨_, _, _, rfl, HU.out⟩
    · have hX1 := hX0.on (bx_on W0.drew (.cells #[.int .i64 0, .slice none 0 0, .slice none 0 0] 24))
      have hS0 : (fun W : World => W.cell? ⟨w.heap.size, 0, none⟩ = some (.int .i64 v) ∧ W.cell? ⟨w.heap.size, 1, none⟩ = some (.slice A n k) ∧ W.cell? ⟨w.heap.size, 2, none⟩ = some (.slice B m q)) (W0.drew.alloc (.cells #[.int .i64 0, .slice none 0 0, .slice none 0 0] 24)) := hX1.c
      refine wt_val0 2  (by kernel_rfl) rfl rfl rfl  (v := ?_) (w' := ?_) (fun ev hk  => ?_) ?_; rotate_left 2; focus (go_simp; first | rfl | (constructor <;> rfl))
      have hT2 := ((Two.nil (w.heap.size + 2) (W0.drew.alloc (.cells #[.int .i64 0, .slice none 0 0, .slice none 0 0] 24))).new1 hX1.z).o1
      rw [show (W0.drew.alloc (.cells #[.int .i64 0, .slice none 0 0, .slice none 0 0] 24)).heap.size = W0.heap.size + 1 from World.size_alloc _ _] at hT2
      have hX2 := hX1.on (bx_on (W0.drew.alloc (.cells #[.int .i64 0, .slice none 0 0, .slice none 0 0] 24)) (.cells #[] 3))
      have hS0 : (fun W : World => W.cell? ⟨w.heap.size, 0, none⟩ = some (.int .i64 v) ∧ W.cell? ⟨w.heap.size, 1, none⟩ = some (.slice A n k) ∧ W.cell? ⟨w.heap.size, 2, none⟩ = some (.slice B m q)) ((W0.drew.alloc (.cells #[.int .i64 0, .slice none 0 0, .slice none 0 0] 24)).alloc (.cells #[] 3)) := hX2.c
      refine ⟨fun _ => hS0, ?_⟩
      refine wt_append13 7 9 13 (by kernel_rfl) rfl rfl rfl (by (repeat (first | (refine slot_hit (N := 39) ?_ (by rfl); (repeat (refine sz_put ?_)); assumption; done) | (apply slot_miss; focus rfl))); all_goals assumption) (by (repeat (first | (refine slot_hit (N := 39) ?_ (by rfl); (repeat (refine sz_put ?_)); assumption; done) | (apply slot_miss; focus rfl))); all_goals assumption) rfl (ub_app hT2 hX2 HN.out.2.2.1 HI.out.2.1 (by have := HN.out.2.2; omega)) (fun v8 w8 hR => ?_)
      obtain ⟨hO8, hX8, hh8, hz8, hk8⟩ := hR
      obtain ⟨B8, q8, rfl, _⟩ := hO8.at
      rw [← HN.out.2.2.1] at hO8 hk8 ⊢
      have hS0 : (fun W : World => W.cell? ⟨w.heap.size, 0, none⟩ = some (.int .i64 v) ∧ W.cell? ⟨w.heap.size, 1, none⟩ = some (.slice A n k) ∧ W.cell? ⟨w.heap.size, 2, none⟩ = some (.slice B m q)) w8 := hX8.c
      refine ⟨fun _ => hS0, ?_⟩
      (refine wt_take2 8 8 14 (v := ?_) rfl rfl (by kernel_rfl) (by kernel_rfl) (by kernel_rfl) (by kernel_rfl) (fun _ _ _ h => h) rfl hS0 (by (repeat (first | (refine slot_hit (N := 39) ?_ (by rfl); (repeat (refine sz_put ?_)); assumption; done) | (apply slot_miss; focus rfl))); all_goals assumption) (by (repeat (first | (refine slot_hit (N := 39) ?_ (by rfl); (repeat (refine sz_put ?_)); assumption; done) | (apply slot_miss; focus rfl))); all_goals assumption) (fun ev hk hv0 hv1 w hS => ?_) ?_; rotate_left; focus (obtain ⟨j0, j1, j2⟩ := hS; go_simp; rfl))
      have hH : Has w8 W0.heap.size 24 #[.int .i64 0, .slice none 0 0, .slice none 0 0] := (hh8 W0.heap.size (by simp; omega) (fun e => by simp [Value.ownBlock] at e)).trans ((Has.new W0.drew 24 #[.int .i64 0, .slice none 0 0, .slice none 0 0]).al _)
      have hU := ub_store (v := v) hX8 hH (by have := hX0.z; simpa using this) hO8 (fun b hb e => by rcases hk8 b hb with h | h <;> (simp [Value.ownBlock] at h; omega))
      obtain ⟨f0, f1, f2⟩ := (show Bs W0.heap.size _ _ _ _ from ⟨hH⟩).f
      obtain ⟨e0, e1, e2⟩ := (show Bs W0.heap.size _ _ _ _ from ⟨hH⟩).c
      refine wt_act2 10 5 15 (by kernel_rfl) rfl rfl rfl (by (repeat (first | (refine slot_hit (N := 39) ?_ (by rfl); (repeat (refine sz_put ?_)); assumption; done) | (apply slot_miss; focus rfl))); all_goals assumption) (by (repeat (first | (refine slot_hit (N := 39) ?_ (by rfl); (repeat (refine sz_put ?_)); assumption; done) | (apply slot_miss; focus rfl))); all_goals assumption) (w' := ?_) (fun ev hk hv0 hv1 => ?_) ?_; rotate_left; focus (go_simp; rfl)
      refine ⟨fun h => absurd h (by decide), ?_⟩
      generalize ((w8.setCell ⟨W0.heap.size, 0, none⟩ (.int .i64 v)).setCell ⟨W0.heap.size, 1, none⟩ (.slice none 0 0)).setCell ⟨W0.heap.size, 2, none⟩ (.slice B8 p q8) = W7 at hU ⊢
      refine wt_done (by kernel_rfl) (NoPanic.normal ?_) _
      have ha := HA.out
      subst ha
      have HU := Lib.hid hU
      clear hZ hs1 hs2 hs4 hS0 hX1 hO8 hX8 hh8 hz8 hk8 hX2 hT2 hH hU f0 f1 f2 e0 e1 e2
      go_wp2
      go_meet
      exact ⟨_, _, _, rfl, HU.out⟩
  case rest =>
    obtain ⟨g, B1, q1, rfl, hU⟩ := hcut
    obtain ⟨wa, hwa⟩ : ∃ wa, wa = wc := ⟨_, rfl⟩
    subst hwa
    have HU := Lib.hid hU
    clear hU hX0
    go_wp2
    go_loopw [6] (fun i wr => ∃ (j : Nat) (A1 : Option Addr) (n1 k1 : Nat), j ≤ n ∧ i = .int .i64 (j : Int) ∧ Ub w wr (.int .i64 v) (.slice A n k) (.slice B m q) g v (.slice A1 n1 k1) (t.take (min j (usz n s lv))) (.slice B1 p q1) (s.take lv)) (fun i _ => n - (intOf i).toNat)
    case atStart => exact ⟨0, none, 0, 0, Nat.zero_le _, rfl, by simpa using HU.out⟩
    case round =>
      obtain ⟨j, A1, n1, k1, hj, rfl, hu⟩ := hrel
      by_cases hlt : j < n
      · obtain ⟨b, o, rfl, hb0, hcs⟩ := HI.out.1.cells (by have := HN.out.1; omega)
        have hjt : j < t.length := by have := HN.out.1; omega
        have hj1 : (j : Int) < (n : Int) := by omega
        have hj0 : (0 : Int) ≤ (j : Int) := by omega
        obtain ⟨c0, c1, c2⟩ := hu.x.c
        have HR := Lib.hid hu
        obtain ⟨x, hx⟩ : ∃ x, x = t.getD j 0 := ⟨_, rfl⟩
        have HXE := Lib.hid hx
        have HY := Lib.hid (show w.cell? ⟨b, o + j, none⟩ = some (.int .i64 x) by rw [hx]; exact hcs j hjt)
        clear hx
        have HO := Lib.hid (show OkS n s by rw [HN.out.1]; exact HI.out.2.2.2.1)
        have HLV := Lib.hid HI.out.2.2.2.2
        by_cases hc : (atL s (j : Int) : Int) ≤ (lv : Int)
        · have HJ := Lib.hid ((usz_iff HO.out HLV.out hlt).2 (by omega))
          clear hu hcs
          go_wp2_with (first | (go_at_call 40; (with_reducible refine (DA j _ HR.out.x.b).mono ?_); rintro e w1 ⟨rfl, hb1⟩))
          have hu1 := (HR.out.on hb1).drew
          have hS0 : (fun W : World => W.cell? ⟨w.heap.size, 1, none⟩ = some (.slice (some ⟨b, o, none⟩) n k) ∧ W.cell? ⟨g, 1, none⟩ = some (.slice A1 n1 k1) ∧ W.cell? ⟨b, o + j, none⟩ = some (.int .i64 (x))) w1.drew := ⟨hu1.x.c.2.1, hu1.c.2.1, (hu1.x.b.cell (cell_lt HY.out)).trans HY.out⟩
          refine wp_slots (fun f => Sz f 39 ∧ Slot f 2 (.pointer (some ⟨w.heap.size, 0, none⟩)) ∧ Slot f 5 (.pointer (some ⟨g, 0, none⟩)) ∧ Slot f 6 (.int .i64 (j : Int))) ⟨⟨rfl, rfl⟩, ⟨rfl⟩, ⟨rfl⟩, ⟨rfl⟩⟩ fun a0 hA0 hR => ?_
          obtain ⟨hZ, hs2, hs5, hs6⟩ := hR
          have HA := Lib.hid hA0
          clear hA0
          refine wp_region_T (fun W : World => W.cell? ⟨w.heap.size, 1, none⟩ = some (.slice (some ⟨b, o, none⟩) n k) ∧ W.cell? ⟨g, 1, none⟩ = some (.slice A1 n1 k1) ∧ W.cell? ⟨b, o + j, none⟩ = some (.int .i64 (x))) 10 (by kernel_rfl) ?_
          refine WT.h ?_
          (refine wt_take1 0 5 (v := ?_) rfl rfl (by kernel_rfl) (by kernel_rfl) (by kernel_rfl) (by kernel_rfl) (fun _ _ _ h => h) rfl hS0 (by (repeat (first | (refine slot_hit (N := 39) ?_ (by rfl); (repeat (refine sz_put ?_)); assumption; done) | (apply slot_miss; focus rfl))); all_goals assumption) (fun ev hk hv0 w hS => ?_) ?_; rotate_left; focus (obtain ⟨j0, j1, j2⟩ := hS; go_simp; rfl)); (refine wt_take1 1 28 (v := ?_) rfl rfl (by kernel_rfl) (by kernel_rfl) (by kernel_rfl) (by kernel_rfl) (fun _ _ _ h => h) rfl hS0 (by (repeat (first | (refine slot_hit (N := 39) ?_ (by rfl); (repeat (refine sz_put ?_)); assumption; done) | (apply slot_miss; focus rfl))); all_goals assumption) (fun ev hk hv0 w hS => ?_) ?_; rotate_left; focus (obtain ⟨j0, j1, j2⟩ := hS; go_simp; rfl)); (refine wt_take1 2 2 (v := ?_) rfl rfl (by kernel_rfl) (by kernel_rfl) (by kernel_rfl) (by kernel_rfl) (fun _ _ _ h => h) rfl hS0 (by (repeat (first | (refine slot_hit (N := 39) ?_ (by rfl); (repeat (refine sz_put ?_)); assumption; done) | (apply slot_miss; focus rfl))); all_goals assumption) (fun ev hk hv0 w hS => ?_) ?_; rotate_left; focus (obtain ⟨j0, j1, j2⟩ := hS; go_simp; rfl)); (refine wt_take1 3 30 (v := ?_) rfl rfl (by kernel_rfl) (by kernel_rfl) (by kernel_rfl) (by kernel_rfl) (fun _ _ _ h => h) rfl hS0 (by (repeat (first | (refine slot_hit (N := 39) ?_ (by rfl); (repeat (refine sz_put ?_)); assumption; done) | (apply slot_miss; focus rfl))); all_goals assumption) (fun ev hk hv0 w hS => ?_) ?_; rotate_left; focus (obtain ⟨j0, j1, j2⟩ := hS; go_simp; rfl)); (refine wt_move 4 6 rfl rfl (by kernel_rfl) (by kernel_rfl) (by kernel_rfl) (by kernel_rfl) (fun _ _ _ h => h) rfl hS0 (by (repeat (first | (refine slot_hit (N := 39) ?_ (by rfl); (repeat (refine sz_put ?_)); assumption; done) | (apply slot_miss; focus rfl))); all_goals assumption) rfl ?_); (refine wt_take2 5 31 32 (v := ?_) rfl rfl (by kernel_rfl) (by kernel_rfl) (by kernel_rfl) (by kernel_rfl) (fun _ _ _ h => h) rfl hS0 (by (repeat (first | (refine slot_hit (N := 39) ?_ (by rfl); (repeat (refine sz_put ?_)); assumption; done) | (apply slot_miss; focus rfl))); all_goals assumption) (by (repeat (first | (refine slot_hit (N := 39) ?_ (by rfl); (repeat (refine sz_put ?_)); assumption; done) | (apply slot_miss; focus rfl))); all_goals assumption) (fun ev hk hv0 hv1 w hS => ?_) ?_; rotate_left; focus (obtain ⟨j0, j1, j2⟩ := hS; go_simp; rfl)); (refine wt_take1 6 33 (v := ?_) rfl rfl (by kernel_rfl) (by kernel_rfl) (by kernel_rfl) (by kernel_rfl) (fun _ _ _ h => h) rfl hS0 (by (repeat (first | (refine slot_hit (N := 39) ?_ (by rfl); (repeat (refine sz_put ?_)); assumption; done) | (apply slot_miss; focus rfl))); all_goals assumption) (fun ev hk hv0 w hS => ?_) ?_; rotate_left; focus (obtain ⟨j0, j1, j2⟩ := hS; go_simp; rfl))
          refine wt_val1 7 34 (by kernel_rfl) rfl rfl rfl (by (repeat (first | (refine slot_hit (N := 39) ?_ (by rfl); (repeat (refine sz_put ?_)); assumption; done) | (apply slot_miss; focus rfl))); all_goals assumption) (v := ?_) (w' := ?_) (fun ev hk hv0 => ?_) ?_; rotate_left 2; focus (go_simp; first | rfl | (constructor <;> rfl))
          refine ⟨fun _ => ⟨ca hS0.1 _, ca hS0.2.1 _, ca hS0.2.2 _⟩, ?_⟩
          refine wt_append13 8 29 35 (by kernel_rfl) rfl rfl rfl (by (repeat (first | (refine slot_hit (N := 39) ?_ (by rfl); (repeat (refine sz_put ?_)); assumption; done) | (apply slot_miss; focus rfl))); all_goals assumption) (by (repeat (first | (refine slot_hit (N := 39) ?_ (by rfl); (repeat (refine sz_put ?_)); assumption; done) | (apply slot_miss; focus rfl))); all_goals assumption) rfl (fun ty => io_run_g (w.heap.size + 2) (.slice A1 n1 k1) _ hu1.t.o1 (x) (by have := HI.out.2.2.1; rw [List.length_take]; omega) hu1.x.z ty) (fun v8 w8 hR => ?_)
          obtain ⟨hO8, hB8, hh8, hz8, hk8⟩ := hR
          obtain ⟨hH8, hU8⟩ := hu1.app hO8 hB8 hh8 hk8
          obtain ⟨A8, k8, rfl, _⟩ := hO8.at
          generalize (t.take (min j (usz n s lv)) ++ [x]).length = n8 at hO8 hk8 hU8 ⊢
          have hS8 : (fun W : World => W.cell? ⟨w.heap.size, 1, none⟩ = some (.slice (some ⟨b, o, none⟩) n k) ∧ W.cell? ⟨g, 1, none⟩ = some (.slice A1 n1 k1) ∧ W.cell? ⟨b, o + j, none⟩ = some (.int .i64 (x))) w8 := ⟨(hu1.x.far hB8).c.2.1, hH8.cell 1, ((hu1.x.far hB8).b.cell (cell_lt HY.out)).trans HY.out⟩
          refine ⟨fun _ => hS8, ?_⟩
          have hS0 := hS8
          (refine wt_take1 9 5 (v := ?_) rfl rfl (by kernel_rfl) (by kernel_rfl) (by kernel_rfl) (by kernel_rfl) (fun _ _ _ h => h) rfl hS0 (by (repeat (first | (refine slot_hit (N := 39) ?_ (by rfl); (repeat (refine sz_put ?_)); assumption; done) | (apply slot_miss; focus rfl))); all_goals assumption) (fun ev hk hv0 w hS => ?_) ?_; rotate_left; focus (obtain ⟨j0, j1, j2⟩ := hS; go_simp; rfl))
          have f1 : w8.frozen? ⟨g, 1, none⟩ = false := hH8.fz 1
          refine wt_act2 10 37 36 (by kernel_rfl) rfl rfl rfl (by (repeat (first | (refine slot_hit (N := 39) ?_ (by rfl); (repeat (refine sz_put ?_)); assumption; done) | (apply slot_miss; focus rfl))); all_goals assumption) (by (repeat (first | (refine slot_hit (N := 39) ?_ (by rfl); (repeat (refine sz_put ?_)); assumption; done) | (apply slot_miss; focus rfl))); all_goals assumption) (w' := ?_) (fun ev hk hv0 hv1 => ?_) ?_; rotate_left; focus (go_simp; rfl)
          refine ⟨fun h => absurd h (by decide), ?_⟩
          have hE : t.take (min j (usz n s lv)) ++ [x] = t.take (min (j + 1) (usz n s lv)) := by
            have := HJ.out
            rw [Nat.min_eq_left (by omega), Nat.min_eq_left (by omega), List.take_succ_eq_append_getElem hjt, HXE.out, getD_at hjt]
          rw [hE] at hU8
          generalize w8.setCell ⟨g, 1, none⟩ (.slice A8 n8 k8) = W9 at hU8 ⊢
          refine wt_done (by kernel_rfl) (NoPanic.normal ?_) _
          have ha := HA.out
          subst ha
          have H9 := Lib.hid hU8
          clear hZ hs2 hs5 hs6 hS0 hS8 hU8 hH8 hO8 hB8 hh8 hz8 hk8 hu1 f1 hE c0 c1 c2 hb1
          go_wp2
          go_roundw
          case rel => exact ⟨j + 1, _, _, _, by omega, by go_num, H9.out⟩
          case measure => simp [intOf]; omega
        · have HJ := Lib.hid (show usz n s lv ≤ j from Nat.le_of_not_lt fun h => hc (by have := (usz_iff HO.out HLV.out hlt).1 h; omega))
          have hc' : (lv : Int) < (atL s (j : Int) : Int) := by omega
          clear hu hcs
          go_wp2_with (first | (go_at_call 40; (with_reducible refine (DA j _ HR.out.x.b).mono ?_); rintro e w1 ⟨rfl, hb1⟩))
          go_roundw
          case rel => exact ⟨j + 1, A1, n1, k1, by omega, by go_num, by have := HJ.out; have hu1 := HR.out.on hb1; rw [Nat.min_eq_right this] at hu1; rw [Nat.min_eq_right (Nat.le_succ_of_le this)]; exact hu1⟩
          case measure => simp [intOf]; omega
      · have hjn : ¬ (j : Int) < (n : Int) := by omega
        have hE : t.take (min j (usz n s lv)) = t.take (usz n s lv) := by
          have h1 := usz_le HI.out.2.2.2.1 lv
          rw [← HN.out.1] at h1
          rw [Nat.min_eq_right (by omega)]
        rw [hE] at hu
        obtain ⟨c0, c1, c2⟩ := hu.x.c
        obtain ⟨d0, d1, d2, _⟩ := hu.c
        obtain ⟨e0, e1, e2, f0, f1, f2⟩ := hu.x.d
        have HR := Lib.hid hu
        clear hu hE
        go_wp2
        refine bodyPost_ret (v := .agg #[.int .i64 v, .slice A1 n1 k1, .slice B1 p q1]) (by simp [results, Try.results31, go_sem, e0, e1, e2]) rfl ?_
        have hT := HR.out.t.st3 (show w.heap.size + 1 < w.heap.size + 2 by omega) (.int .i64 v) (.slice A1 n1 k1) (.slice B1 p q1)
        exact ⟨_, _, rfl, ⟨hT.o1.base (Nat.le_add_right _ 2), hT.o2.base (Nat.le_add_right _ 2), hT.ap⟩, st3_below HR.out.x.b (Nat.le_succ _) _ _ _⟩

set_option maxRecDepth 100000 in
set_option maxHeartbeats 4000000 in
theorem rUndo_any (v : Int) (A : Option Addr) (t : List Int) (k : Nat) (B : Option Addr) (s : List Int) (q : Nat) (x : Int) (w : World) (h : Ia w w.heap.size A t k) (hl : t.length ≤ 100000) (h' : Ia w w.heap.size B s q) (hl' : s.length ≤ 100000) :
    Calls Try.prog 17 #[asv v A t.length k B s.length q, .int .i64 x] w (AsIs (uV v t s x) (uT v t s x) (uS v t s x) (uE v t s x) w) := by
  have H0 := Bx2.new w (.int .i64 v) (.slice A t.length k) (.slice B s.length q)
  have DC := rCheck14_any v A t k B s q (bx2 w (.int .i64 v) (.slice A t.length k) (.slice B s.length q)) (h.on H0.b) hl (h'.on H0.b) hl'
  unfold bx2 at DC
  obtain ⟨n, hn⟩ : ∃ n, n = t.length := ⟨_, rfl⟩
  obtain ⟨m, hm⟩ : ∃ m, m = s.length := ⟨_, rfl⟩
  have HB := Lib.hid H0
  rw [← hn, ← hm] at HB
  by_cases hO : OkA v t s
  · rw [aE_yes hO] at DC
    by_cases hx : x < 0 ∨ (s.length : Int) < x
    · have e0 : uE v t s x = 2 := by unfold uE; rw [if_pos hO, if_pos hx]
      obtain ⟨p1, p2, p3⟩ := u_no (v := v) (t := t) (s := s) (lv := x) (by rw [e0]; decide)
      rw [p1, p2, p3, e0]
      rw [← hn, ← hm] at DC ⊢
      rw [← hm] at hx
      clear h hl h' hl' hn hm H0 hO e0 p1 p2 p3
      by_cases hx1 : x < 0
      · clear hx
        go_enter Try.func17, Try.ntmps17
        go_wp2_with (first
          | (go_at_call 19; (with_reducible refine DC.mono ?_); rintro e w2 ⟨rfl, hb2⟩
             have H2 := HB.out.on hb2
             obtain ⟨c0, c1, c2⟩ := H2.c
             obtain ⟨d0, d1, d2, f0, f1, f2⟩ := H2.d
             have HB2 := Lib.hid H2
             clear H2 hb2))
        refine bodyPost_ret (v := .tuple #[.agg #[.int .i64 0, .slice none 0 0, .slice none 0 0], .int .i64 2]) (by simp [results, Try.results17, go_sem, d0, d1, d2]) rfl ?_
        exact (OwIs.none rfl (st3_below HB2.out.b (Nat.le_succ _) _ _ _)).as
      · have hx2 : (m : Int) < x := by omega
        clear hx
        go_enter Try.func17, Try.ntmps17
        go_wp2_with (first
          | (go_at_call 19; (with_reducible refine DC.mono ?_); rintro e w2 ⟨rfl, hb2⟩
             have H2 := HB.out.on hb2
             obtain ⟨c0, c1, c2⟩ := H2.c
             obtain ⟨d0, d1, d2, f0, f1, f2⟩ := H2.d
             have HB2 := Lib.hid H2
             clear H2 hb2))
        refine bodyPost_ret (v := .tuple #[.agg #[.int .i64 0, .slice none 0 0, .slice none 0 0], .int .i64 2]) (by simp [results, Try.results17, go_sem, d0, d1, d2]) rfl ?_
        exact (OwIs.none rfl (st3_below HB2.out.b (Nat.le_succ _) _ _ _)).as
    · obtain ⟨y, rfl⟩ : ∃ y : Nat, x = (y : Int) := ⟨x.toNat, by omega⟩
      have e0 : uE v t s (y : Int) = 0 := by unfold uE; rw [if_pos hO, if_neg hx]
      obtain ⟨p1, p2, p3⟩ := u_yes e0
      have DW := fun (W : World) (hb : Below w.heap.size w W) => rUndone_any v A t k B s q y W (h.on hb) hl (h'.on hb) hl' hO.2.2 (by omega)
      rw [p1, p2, p3, e0, show (y : Int).toNat = y by omega]
      obtain ⟨T1, hT1⟩ : ∃ T1, T1 = t.take (usz t.length s y) := ⟨_, rfl⟩
      obtain ⟨S1, hS1⟩ : ∃ S1, S1 = s.take y := ⟨_, rfl⟩
      rw [← hT1, ← hS1] at DW ⊢
      have hx1 : ¬ (y : Int) < 0 := by omega
      have hx2 : ¬ (m : Int) < (y : Int) := by omega
      rw [← hn, ← hm] at DC DW ⊢
      clear h hl h' hl' hn hm H0 hO e0 p1 p2 p3 hx hT1 hS1
      go_enter Try.func17, Try.ntmps17
      go_wp2_with (first
        | (go_at_call 19; (with_reducible refine DC.mono ?_); rintro e w2 ⟨rfl, hb2⟩
           have H2 := HB.out.on hb2
           obtain ⟨c0, c1, c2⟩ := H2.c
           obtain ⟨d0, d1, d2, f0, f1, f2⟩ := H2.d
           have HB2 := Lib.hid H2
           clear H2 hb2)
        | (go_at_call 31; (with_reducible refine (DW _ HB2.out.b).mono ?_); rintro e w5 ⟨v1, v2, rfl, hT5, hb5⟩
           obtain ⟨A5, k5, rfl, _⟩ := hT5.o1.at
           obtain ⟨B5, q5, rfl, _⟩ := hT5.o2.at
           obtain ⟨n5, hn5⟩ : ∃ n5, n5 = T1.length := ⟨_, rfl⟩
           obtain ⟨m5, hm5⟩ : ∃ m5, m5 = S1.length := ⟨_, rfl⟩
           rw [← hn5, ← hm5] at hT5
           rw [← hn5, ← hm5]
           have H5 := HB2.out.on hb5
           obtain ⟨g0, g1, g2, k0, k1, k2⟩ := H5.d
           have HB5 := Lib.hid (And.intro H5 (And.intro hT5 (And.intro hn5 (And.intro hm5 HB2.out.z))))
           clear H5 hT5 hb5 hn5 hm5))
      refine bodyPost_ret (v := .tuple #[.agg #[.int .i64 v, .slice A5 n5 k5, .slice B5 m5 q5], .int .i64 0]) (by simp [results, Try.results17, go_sem, g0, g1, g2]) rfl ?_
      have hT := HB5.out.2.1
      have hz := HB5.out.2.2.2.2
      have a1 : ∀ a, A5 = some a → a.block ≠ w.heap.size + 1 := fun a e => by subst e; have := hT.o1.blk a.block rfl; omega
      have a2 : ∀ a, B5 = some a → a.block ≠ w.heap.size + 1 := fun a e => by subst e; have := hT.o2.blk a.block rfl; omega
      obtain ⟨A6, k6, ea, hI1⟩ := hT.o1.at
      obtain ⟨B6, q6, eb, hI2⟩ := hT.o2.at
      cases ea
      cases eb
      refine ⟨A5, k5, B5, q5, by rw [HB5.out.2.2.1, HB5.out.2.2.2.1], (hI1.st3 a1 _ _ _).more (by rw [st3_size]; exact Nat.le_refl _), (hI2.st3 a2 _ _ _).more (by rw [st3_size]; exact Nat.le_refl _), st3_below HB5.out.1.b (Nat.le_succ _) _ _ _, fun a e => ?_, fun a e => ?_⟩
      · subst e; have := hT.o1.blk a.block rfl; omega
      · subst e; have := hT.o2.blk a.block rfl; omega
  · have e0 : uE v t s x = 8 := by unfold uE; rw [if_neg hO]
    obtain ⟨p1, p2, p3⟩ := u_no (v := v) (t := t) (s := s) (lv := x) (by rw [e0]; decide)
    rw [p1, p2, p3, e0]
    rw [aE_no hO] at DC
    rw [← hn, ← hm] at DC ⊢
    clear h hl h' hl' hn hm H0 hO e0 p1 p2 p3
    go_enter Try.func17, Try.ntmps17
    go_wp2_with (first
      | (go_at_call 19; (with_reducible refine DC.mono ?_); rintro e w2 ⟨rfl, hb2⟩
         have H2 := HB.out.on hb2
         obtain ⟨c0, c1, c2⟩ := H2.c
         obtain ⟨d0, d1, d2, f0, f1, f2⟩ := H2.d
         have HB2 := Lib.hid H2
         clear H2 hb2))
    refine bodyPost_ret (v := .tuple #[.agg #[.int .i64 0, .slice none 0 0, .slice none 0 0], .int .i64 8]) (by simp [results, Try.results17, go_sem, d0, d1, d2]) rfl ?_
    exact (OwIs.none rfl (st3_below HB2.out.b (Nat.le_succ _) _ _ _)).as

end Go.Proofs.Ytcmdongdjacgbaa
