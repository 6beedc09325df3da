/- The end of unit propagation: the law's walk. -/
import Derived.Test.YtecmldnigohjfaaDoorUnLaw2
namespace Go.Proofs.YtecmldnigohjfaaDoor
open Go Go.RowKit
set_option linter.unusedVariables false
set_option linter.unusedSimpArgs false

/-- more literals: still valid -/
theorem OkA.up {v : Int} {t s x : List Int} (h : OkA v t s) (hx : OkT v x) (hp : t <+: x) : OkA v x s := by
  refine ⟨h.1, hx, fun y hy => ?_, h.2.2.2⟩
  have := h.2.2.1 y hy
  have := hp.length_le
  exact ⟨by omega, by omega⟩
/-- what is known of an argument that fits, and of its propagation -/
structure Fx (v : Int) (t s : List Int) (L : List (List Int)) (x : List Int) (a : Int) (n n1 m nl : Nat) : Prop where
  hn : n = t.length
  hm : m = s.length
  hnl : nl = L.length
  hn1 : n1 = x.length
  n2 : n ≤ 200
  m2 : m ≤ 200
  l6 : nl ≤ 60
  ok : OkA v t s
  okx : OkA v x s
  okL : ∀ c ∈ L, OkC v c
  pre : x.take n = t
  nn1 : n ≤ n1
  n1k : n1 ≤ 4000
  v4 : v ≤ 4000
  up : upR v t L = (x, a)
  ups : upR v x L = (x, a)
  aw : (a = -1 ∧ Cls x L) ∨ ∃ i : Nat, i < nl ∧ a = (i : Int) ∧ stC x (L.getD i []) = 0 ∧ ∀ j, j < i → stC x (L.getD j []) ≠ 0
theorem Fx.mk' {v : Int} {t s : List Int} {L : List (List Int)} {n m nl : Nat} (h : ftB v t s L = true) (hn : n = t.length) (hm : m = s.length) (hnl : nl = L.length) : ∃ x a n1, Fx v t s L x a n n1 m nl := by
  obtain ⟨⟨h1, h2, h3⟩, h4, hO, hL, hv⟩ := ftB_yes h
  have h0 : 0 ≤ v := by have := hO.1; omega
  have hx := upR_ok' hL hO.2.1
  have hp := upR_pre hL hO.2.1
  refine ⟨_, _, _, hn, hm, hnl, rfl, by omega, by omega, by omega, hO, hO.up hx hp, hL, ?_, ?_, upR_len hL hO.2.1 h0 hv, hv, rfl, upR_twice hL h0 hO.2.1, ?_⟩
  · obtain ⟨r, hr⟩ := hp
    rw [← hr, hn, List.take_left]
  · rw [hn]; exact hp.length_le
  · rcases upR_done hL h0 hO.2.1 with ⟨a1, a2⟩ | ⟨i, hi, a1, a2, a3⟩
    · exact Or.inl ⟨a1, a2⟩
    · refine Or.inr ⟨i, by omega, a1, by rw [gotD hi]; exact a2, fun j hj => by rw [gotD (by omega)]; exact a3 j hj⟩
theorem Fx.lt {v : Int} {t s : List Int} {L : List (List Int)} {x : List Int} {a : Int} {n n1 m nl : Nat} (h : Fx v t s L x a n n1 m nl) : ¬ (nl : Int) ≤ a := by
  rcases h.aw with ⟨e, _⟩ | ⟨i, hi, e, _⟩
  · rw [e]; omega
  · rw [e]; omega

set_option maxRecDepth 100000 in
set_option maxHeartbeats 40000000 in
theorem end15_any (v : Int) (A : Option Addr) (t : List Int) (k : Nat) (B : Option Addr) (s : List Int) (q : Nat) (C : Option Addr) (L : List (List Int)) (kc : Nat) (w : World) (hm0 : Ia w w.heap.size A t k) (hn0 : Ia w w.heap.size B s q) (hk0 : k ≤ 9223372036854775807 ∧ q ≤ 9223372036854775807)
    (hm1 : Ill w w.heap.size C L kc) (hk1 : kc ≤ 9223372036854775807) (hr1 : ∀ c ∈ L, (∀ x ∈ c, I64 x) ∧ c.length ≤ 9223372036854775807) (htab : Tab w.heap.size w) :
    Calls Tryd.prog 7 #[asv v A t.length k B s.length q, .slice C L.length kc] w fun e w' => e = .returned (.bool true) ∧ Below w.heap.size w w' := by
  have H0 := Bs.new w (.int .i64 v) (.slice A t.length k) (.slice B s.length q)
  have hb0 := bx_on w (.cells #[.int .i64 v, .slice A t.length k, .slice B s.length q] 24)
  obtain ⟨n, hn⟩ : ∃ n, n = t.length := ⟨_, rfl⟩
  obtain ⟨m, hm⟩ : ∃ m, m = s.length := ⟨_, rfl⟩
  obtain ⟨nl, hnl⟩ : ∃ m, m = L.length := ⟨_, rfl⟩
  have DA := fun (W : World) (hb : Below w.heap.size w W) => alive15_any W (htab.next hb)
  have DF := fun (W : World) (hb : Below w.heap.size w W) => fit15_any v A t k B s q C L kc W (hm0.on hb) (hn0.on hb) hk0 (hm1.on hb) hk1 hr1 hn hm hnl
  have HB := Lib.hid (And.intro H0 hb0)
  rw [← hn, ← hm] at HB ⊢
  rw [← hnl]
  by_cases hf : ftB v t s L = true
  case neg =>
    have hf : ftB v t s L = false := by simpa using hf
    rw [hf] at DF
    clear hm0 hn0 hk0 hm1 hk1 hr1 htab hn hm hnl hf H0 hb0
    go_enter Tryd.func7, Tryd.ntmps7
    go_wp2_with (first
      | (go_at_call 17; (with_reducible refine (DA _ HB.out.2).mono ?_); rintro e w1 ⟨rfl, hb1⟩
         have HB1 := Lib.hid (And.intro (HB.out.1.on hb1) (bn HB.out.2 hb1))
         obtain ⟨c0, c1, c2⟩ := HB1.out.1.c
         clear hb1)
      | (go_at_call 18; (with_reducible refine (DF _ HB1.out.2).mono ?_); rintro e w2 ⟨rfl, hb2⟩
         have HB2 := Lib.hid (bn HB1.out.2 hb2)
         clear hb2))
    go_ret
    exact ⟨rfl, HB2.out⟩
  case pos =>
    obtain ⟨x, a, n1, hx⟩ := Fx.mk' hf hn hm hnl
    rw [hf] at DF
    have hNw := Nw.arg hm0 hn0 hn hm
    have D1 := fun (W : World) (hb : Below w.heap.size w W) => (hNw.on hb).run (v := v) (by have := hx.m2; omega) hx.ok (hm1.on hb) hx.okL (by have := hx.l6; omega) (htab.next hb) (n' := n1) (by rw [hx.up]; exact hx.hn1) hnl
    have D2 := fun (b : Nat) (A' : Option Addr) (k' : Nat) (B' : Option Addr) (q' : Nat) (W : World) (hb : Below w.heap.size w W) (h : Nw b W A' n1 k' x B' m q' s) => h.run (v := v) (by have := hx.m2; omega) hx.okx (hm1.on hb) hx.okL (by have := hx.l6; omega) (htab.next hb) (n' := n1) (by rw [hx.ups]; exact hx.hn1) hnl
    rw [hx.up] at D1
    rw [hx.ups] at D2
    have gA : decide ((nl : Int) ≤ a) = false := decide_eq_false hx.lt
    have gB : decide (n1 < n) = false := decide_eq_false (by have := hx.nn1; omega)
    have gB' : decide ((n1 : Int) < (n : Int)) = false := decide_eq_false (by have := hx.nn1; omega)
    have hl6 : nl ≤ 60 := hx.l6
    have HX := Lib.hid hx
    have HC := Lib.hid (And.intro hm1 (And.intro hm0 hn0))
    have eaa : (a == a) = true := by simp
    clear hm0 hn0 hk0 hm1 hk1 hr1 htab hn hm hnl hf H0 hb0 hNw hx
    go_enter Tryd.func7, Tryd.ntmps7
    go_wp2_with (first
      | (go_at_call 17; (with_reducible refine (DA _ HB.out.2).mono ?_); rintro e w1 ⟨rfl, hb1⟩
         have HB1 := Lib.hid (And.intro (HB.out.1.on hb1) (bn HB.out.2 hb1))
         obtain ⟨c0, c1, c2⟩ := HB1.out.1.c
         clear hb1)
      | (go_at_call 18; (with_reducible refine (DF _ HB1.out.2).mono ?_); rintro e w2 ⟨rfl, hb2⟩
         have HB2 := Lib.hid (And.intro (HB1.out.1.on hb2) (bn HB1.out.2 hb2))
         obtain ⟨c20, c21, c22⟩ := HB2.out.1.c
         clear hb2)
      | (go_at_call 14; (with_reducible refine (D1 _ HB2.out.2).mono ?_); rintro e w3 ⟨A3, k3, B3, q3, rfl, hN3, hb3⟩
         have hz := bx_on w3 (.cells #[.int .i64 v, .slice A3 n1 k3, .slice B3 m q3] 24)
         have HB3 := Lib.hid (And.intro ((HB2.out.1.on hb3).on hz) (And.intro (bn (bn HB2.out.2 hb3) hz) (And.intro (hN3.on hz) (Bs.new w3 (.int .i64 v) (.slice A3 n1 k3) (.slice B3 m q3)))))
         clear hN3 hb3 hz))
    clear DA DF D1
    generalize hW : w3.alloc (.cells #[.int .i64 v, .slice A3 n1 k3, .slice B3 m q3] 24) = W3 at HB3 ⊢
    clear hW c0 c1 c2 c20 c21 c22 HB1 HB2 HB
    generalize hb : w3.heap.size = gx at HB3 ⊢
    clear hb
    obtain ⟨A4, hcut, hI4⟩ := HB3.out.2.2.1.ti.upto n (by rw [← HX.out.hn1]; exact HX.out.nn1)
    rw [HX.out.pre, ← HX.out.hn1, ← HX.out.hn] at hcut
    rw [HX.out.pre] at hI4
    have HI4 := Lib.hid hI4
    have DS1 := fun (W : World) (hb : Below W3.heap.size W3 W) => rSame_any A4 t k3 A t k W (HI4.out.on hb) (by have := HX.out.n2; have := HX.out.hn; omega) (HC.out.2.1.on (bn HB3.out.2.1 hb)) (by have := HX.out.n2; have := HX.out.hn; omega)
    have DS2 := fun (W : World) (hb : Below W3.heap.size W3 W) => rSame_any B3 s q3 B s q W (HB3.out.2.2.1.si.on hb) (by have := HX.out.m2; have := HX.out.hm; omega) (HC.out.2.2.on (bn HB3.out.2.1 hb)) (by have := HX.out.m2; have := HX.out.hm; omega)
    rw [sm_self, ← HX.out.hn] at DS1
    rw [sm_self, ← HX.out.hm] at DS2
    clear hI4
    have hS0 : (fun W : World => (W.cell? ⟨w.heap.size, 1, none⟩ = some (.slice A n k) ∧ W.cell? ⟨w.heap.size, 2, none⟩ = some (.slice B m q)) ∧ W.cell? ⟨gx, 1, none⟩ = some (.slice A3 n1 k3) ∧ W.cell? ⟨gx, 2, none⟩ = some (.slice B3 m q3)) W3.drew := ⟨HB3.out.1.c.2, HB3.out.2.2.2.c.2⟩
    have HSk : Hid (∀ W, Below W3.heap.size W3 W → (fun W : World => (W.cell? ⟨w.heap.size, 1, none⟩ = some (.slice A n k) ∧ W.cell? ⟨w.heap.size, 2, none⟩ = some (.slice B m q)) ∧ W.cell? ⟨gx, 1, none⟩ = some (.slice A3 n1 k3) ∧ W.cell? ⟨gx, 2, none⟩ = some (.slice B3 m q3)) W) := Lib.hid fun W hb => ⟨(HB3.out.1.on hb).c.2, (HB3.out.2.2.2.on hb).c.2⟩
    refine wp_slots (fun f => Sz f 140 ∧ Slot f 1 (.slice C nl kc) ∧ Slot f 2 (.pointer (some ⟨w.heap.size, 0, none⟩)) ∧ Slot f 5 (.bool true) ∧ Slot f 6 (.pointer (some ⟨gx, 0, none⟩)) ∧ Slot f 7 (.int .i64 a) ∧ Slot f 8 (.int .i64 0)) ⟨⟨rfl, rfl⟩, ⟨rfl⟩, ⟨rfl⟩, ⟨rfl⟩, ⟨rfl⟩, ⟨rfl⟩, ⟨rfl⟩⟩ fun a0 hA0 hR => ?_
    obtain ⟨hZ, hs1, hs2, hs5, hs6, hs7, hs8⟩ := hR
    clear hA0
    refine wp_region_T (fun W : World => (W.cell? ⟨w.heap.size, 1, none⟩ = some (.slice A n k) ∧ W.cell? ⟨w.heap.size, 2, none⟩ = some (.slice B m q)) ∧ W.cell? ⟨gx, 1, none⟩ = some (.slice A3 n1 k3) ∧ W.cell? ⟨gx, 2, none⟩ = some (.slice B3 m q3)) 37 (by kernel_rfl) ?_
    refine WT.h ?_
    (refine wt_move 0 8 rfl rfl (by kernel_rfl) (by kernel_rfl) (by kernel_rfl) (by kernel_rfl) (fun _ _ _ h => h) rfl hS0 (by (repeat (first | (refine slot_hit (N := 140) ?_ (by rfl); (repeat (refine sz_put ?_)); assumption; done) | (apply slot_miss; focus rfl))); all_goals assumption) rfl ?_); (refine wt_take1 1 33 (v := ?_) rfl rfl (by kernel_rfl) (by kernel_rfl) (by kernel_rfl) (by kernel_rfl) (fun _ _ _ h => h) rfl hS0 (by (repeat (first | (refine slot_hit (N := 140) ?_ (by rfl); (repeat (refine sz_put ?_)); assumption; done) | (apply slot_miss; focus rfl))); all_goals assumption) (fun ev hk hv0 w hS => ?_) ?_; rotate_left; focus (obtain ⟨⟨j1, j2⟩, ⟨j3, j4⟩⟩ := hS; go_simp; rfl)); (refine wt_move 2 34 rfl rfl (by kernel_rfl) (by kernel_rfl) (by kernel_rfl) (by kernel_rfl) (fun _ _ _ h => h) rfl hS0 (by (repeat (first | (refine slot_hit (N := 140) ?_ (by rfl); (repeat (refine sz_put ?_)); assumption; done) | (apply slot_miss; focus rfl))); all_goals assumption) rfl ?_); (refine wt_move 3 7 rfl rfl (by kernel_rfl) (by kernel_rfl) (by kernel_rfl) (by kernel_rfl) (fun _ _ _ h => h) (wanted_of rfl rfl (by (repeat (first | (refine slot_hit (N := 140) ?_ (by rfl); (repeat (refine sz_put ?_)); assumption; done) | (apply slot_miss; focus rfl))); all_goals assumption) rfl) hS0 (by (repeat (first | (refine slot_hit (N := 140) ?_ (by rfl); (repeat (refine sz_put ?_)); assumption; done) | (apply slot_miss; focus rfl))); all_goals assumption) rfl ?_); (refine wt_move 4 1 rfl rfl (by kernel_rfl) (by kernel_rfl) (by kernel_rfl) (by kernel_rfl) (fun _ _ _ h => h) (wanted_of rfl rfl (by (repeat (first | (refine slot_hit (N := 140) ?_ (by rfl); (repeat (refine sz_put ?_)); assumption; done) | (apply slot_miss; focus rfl))); all_goals assumption) rfl) hS0 (by (repeat (first | (refine slot_hit (N := 140) ?_ (by rfl); (repeat (refine sz_put ?_)); assumption; done) | (apply slot_miss; focus rfl))); all_goals assumption) rfl ?_); (refine wt_take1 5 37 (v := ?_) rfl rfl (by kernel_rfl) (by kernel_rfl) (by kernel_rfl) (by kernel_rfl) (fun _ _ _ h => h) (wanted_of rfl rfl (by (repeat (first | (refine slot_hit (N := 140) ?_ (by rfl); (repeat (refine sz_put ?_)); assumption; done) | (apply slot_miss; focus rfl))); all_goals assumption) rfl) hS0 (by (repeat (first | (refine slot_hit (N := 140) ?_ (by rfl); (repeat (refine sz_put ?_)); assumption; done) | (apply slot_miss; focus rfl))); all_goals assumption) (fun ev hk hv0 w hS => ?_) ?_; rotate_left; focus (obtain ⟨⟨j1, j2⟩, ⟨j3, j4⟩⟩ := hS; go_simp; rfl)); (refine wt_take2 6 36 38 (v := ?_) rfl rfl (by kernel_rfl) (by kernel_rfl) (by kernel_rfl) (by kernel_rfl) (fun _ _ _ h => h) (wanted_of rfl rfl (by (repeat (first | (refine slot_hit (N := 140) ?_ (by rfl); (repeat (refine sz_put ?_)); assumption; done) | (apply slot_miss; focus rfl))); all_goals assumption) rfl) hS0 (by (repeat (first | (refine slot_hit (N := 140) ?_ (by rfl); (repeat (refine sz_put ?_)); assumption; done) | (apply slot_miss; focus rfl))); all_goals assumption) (by (repeat (first | (refine slot_hit (N := 140) ?_ (by rfl); (repeat (refine sz_put ?_)); assumption; done) | (apply slot_miss; focus rfl))); all_goals assumption) (fun ev hk hv0 hv1 w hS => ?_) ?_; rotate_left; focus (obtain ⟨⟨j1, j2⟩, ⟨j3, j4⟩⟩ := hS; go_simp; rfl)); (refine wt_take2 7 35 39 (v := ?_) rfl rfl (by kernel_rfl) (by kernel_rfl) (by kernel_rfl) (by kernel_rfl) (fun _ _ _ h => h) rfl hS0 (by (repeat (first | (refine slot_hit (N := 140) ?_ (by rfl); (repeat (refine sz_put ?_)); assumption; done) | (apply slot_miss; focus rfl))); all_goals assumption) (by (repeat (first | (refine slot_hit (N := 140) ?_ (by rfl); (repeat (refine sz_put ?_)); assumption; done) | (apply slot_miss; focus rfl))); all_goals assumption) (fun ev hk hv0 hv1 w hS => ?_) ?_; rotate_left; focus (obtain ⟨⟨j1, j2⟩, ⟨j3, j4⟩⟩ := hS; go_simp; rfl)); (refine wt_move 8 40 rfl rfl (by kernel_rfl) (by kernel_rfl) (by kernel_rfl) (by kernel_rfl) (fun _ _ _ h => h) rfl hS0 (by (repeat (first | (refine slot_hit (N := 140) ?_ (by rfl); (repeat (refine sz_put ?_)); assumption; done) | (apply slot_miss; focus rfl))); all_goals assumption) rfl ?_); (refine wt_take1 9 6 (v := ?_) rfl rfl (by kernel_rfl) (by kernel_rfl) (by kernel_rfl) (by kernel_rfl) (fun _ _ _ h => h) (wanted_of rfl rfl (by (repeat (first | (refine slot_hit (N := 140) ?_ (by rfl); (repeat (refine sz_put ?_)); assumption; done) | (apply slot_miss; focus rfl))); all_goals assumption) rfl) hS0 (by (repeat (first | (refine slot_hit (N := 140) ?_ (by rfl); (repeat (refine sz_put ?_)); assumption; done) | (apply slot_miss; focus rfl))); all_goals assumption) (fun ev hk hv0 w hS => ?_) ?_; rotate_left; focus (obtain ⟨⟨j1, j2⟩, ⟨j3, j4⟩⟩ := hS; go_simp; rfl)); (refine wt_take1 10 42 (v := ?_) rfl rfl (by kernel_rfl) (by kernel_rfl) (by kernel_rfl) (by kernel_rfl) (fun _ _ _ h => h) (wanted_of rfl rfl (by (repeat (first | (refine slot_hit (N := 140) ?_ (by rfl); (repeat (refine sz_put ?_)); assumption; done) | (apply slot_miss; focus rfl))); all_goals assumption) rfl) hS0 (by (repeat (first | (refine slot_hit (N := 140) ?_ (by rfl); (repeat (refine sz_put ?_)); assumption; done) | (apply slot_miss; focus rfl))); all_goals assumption) (fun ev hk hv0 w hS => ?_) ?_; rotate_left; focus (obtain ⟨⟨j1, j2⟩, ⟨j3, j4⟩⟩ := hS; go_simp; rfl)); (refine wt_take1 11 43 (v := ?_) rfl rfl (by kernel_rfl) (by kernel_rfl) (by kernel_rfl) (by kernel_rfl) (fun _ _ _ h => h) (wanted_of rfl rfl (by (repeat (first | (refine slot_hit (N := 140) ?_ (by rfl); (repeat (refine sz_put ?_)); assumption; done) | (apply slot_miss; focus rfl))); all_goals assumption) rfl) hS0 (by (repeat (first | (refine slot_hit (N := 140) ?_ (by rfl); (repeat (refine sz_put ?_)); assumption; done) | (apply slot_miss; focus rfl))); all_goals assumption) (fun ev hk hv0 w hS => ?_) ?_; rotate_left; focus (obtain ⟨⟨j1, j2⟩, ⟨j3, j4⟩⟩ := hS; go_simp; rfl)); (refine wt_take1 12 2 (v := ?_) rfl rfl (by kernel_rfl) (by kernel_rfl) (by kernel_rfl) (by kernel_rfl) (fun _ _ _ h => h) (wanted_of rfl rfl (by (repeat (first | (refine slot_hit (N := 140) ?_ (by rfl); (repeat (refine sz_put ?_)); assumption; done) | (apply slot_miss; focus rfl))); all_goals assumption) rfl) hS0 (by (repeat (first | (refine slot_hit (N := 140) ?_ (by rfl); (repeat (refine sz_put ?_)); assumption; done) | (apply slot_miss; focus rfl))); all_goals assumption) (fun ev hk hv0 w hS => ?_) ?_; rotate_left; focus (obtain ⟨⟨j1, j2⟩, ⟨j3, j4⟩⟩ := hS; go_simp; rfl)); (refine wt_take1 13 45 (v := ?_) rfl rfl (by kernel_rfl) (by kernel_rfl) (by kernel_rfl) (by kernel_rfl) (fun _ _ _ h => h) (wanted_of rfl rfl (by (repeat (first | (refine slot_hit (N := 140) ?_ (by rfl); (repeat (refine sz_put ?_)); assumption; done) | (apply slot_miss; focus rfl))); all_goals assumption) rfl) hS0 (by (repeat (first | (refine slot_hit (N := 140) ?_ (by rfl); (repeat (refine sz_put ?_)); assumption; done) | (apply slot_miss; focus rfl))); all_goals assumption) (fun ev hk hv0 w hS => ?_) ?_; rotate_left; focus (obtain ⟨⟨j1, j2⟩, ⟨j3, j4⟩⟩ := hS; go_simp; rfl)); (refine wt_take1 14 46 (v := ?_) rfl rfl (by kernel_rfl) (by kernel_rfl) (by kernel_rfl) (by kernel_rfl) (fun _ _ _ h => h) (wanted_of rfl rfl (by (repeat (first | (refine slot_hit (N := 140) ?_ (by rfl); (repeat (refine sz_put ?_)); assumption; done) | (apply slot_miss; focus rfl))); all_goals assumption) rfl) hS0 (by (repeat (first | (refine slot_hit (N := 140) ?_ (by rfl); (repeat (refine sz_put ?_)); assumption; done) | (apply slot_miss; focus rfl))); all_goals assumption) (fun ev hk hv0 w hS => ?_) ?_; rotate_left; focus (obtain ⟨⟨j1, j2⟩, ⟨j3, j4⟩⟩ := hS; go_simp; rfl)); (refine wt_take2 15 44 47 (v := ?_) rfl rfl (by kernel_rfl) (by kernel_rfl) (by kernel_rfl) (by kernel_rfl) (fun _ _ _ h => h) (wanted_of rfl rfl (by (repeat (first | (refine slot_hit (N := 140) ?_ (by rfl); (repeat (refine sz_put ?_)); assumption; done) | (apply slot_miss; focus rfl))); all_goals assumption) rfl) hS0 (by (repeat (first | (refine slot_hit (N := 140) ?_ (by rfl); (repeat (refine sz_put ?_)); assumption; done) | (apply slot_miss; focus rfl))); all_goals assumption) (by (repeat (first | (refine slot_hit (N := 140) ?_ (by rfl); (repeat (refine sz_put ?_)); assumption; done) | (apply slot_miss; focus rfl))); all_goals assumption) (fun ev hk hv0 hv1 w hS => ?_) ?_; rotate_left; focus (obtain ⟨⟨j1, j2⟩, ⟨j3, j4⟩⟩ := hS; go_simp; rfl)); (refine wt_take2 16 41 48 (v := ?_) rfl rfl (by kernel_rfl) (by kernel_rfl) (by kernel_rfl) (by kernel_rfl) (fun _ _ _ h => h) rfl hS0 (by (repeat (first | (refine slot_hit (N := 140) ?_ (by rfl); (repeat (refine sz_put ?_)); assumption; done) | (apply slot_miss; focus rfl))); all_goals assumption) (by (repeat (first | (refine slot_hit (N := 140) ?_ (by rfl); (repeat (refine sz_put ?_)); assumption; done) | (apply slot_miss; focus rfl))); all_goals assumption) (fun ev hk hv0 hv1 w hS => ?_) ?_; rotate_left; focus (obtain ⟨⟨j1, j2⟩, ⟨j3, j4⟩⟩ := hS; go_simp; rfl)); (refine wt_move 17 49 rfl rfl (by kernel_rfl) (by kernel_rfl) (by kernel_rfl) (by kernel_rfl) (fun _ _ _ h => h) rfl hS0 (by (repeat (first | (refine slot_hit (N := 140) ?_ (by rfl); (repeat (refine sz_put ?_)); assumption; done) | (apply slot_miss; focus rfl))); all_goals assumption) rfl ?_); (refine wt_take1 18 6 (v := ?_) rfl rfl (by kernel_rfl) (by kernel_rfl) (by kernel_rfl) (by kernel_rfl) (fun _ _ _ h => h) (wanted_of rfl rfl (by (repeat (first | (refine slot_hit (N := 140) ?_ (by rfl); (repeat (refine sz_put ?_)); assumption; done) | (apply slot_miss; focus rfl))); all_goals assumption) rfl) hS0 (by (repeat (first | (refine slot_hit (N := 140) ?_ (by rfl); (repeat (refine sz_put ?_)); assumption; done) | (apply slot_miss; focus rfl))); all_goals assumption) (fun ev hk hv0 w hS => ?_) ?_; rotate_left; focus (obtain ⟨⟨j1, j2⟩, ⟨j3, j4⟩⟩ := hS; go_simp; rfl)); (refine wt_take1 19 51 (v := ?_) rfl rfl (by kernel_rfl) (by kernel_rfl) (by kernel_rfl) (by kernel_rfl) (fun _ _ _ h => h) (wanted_of rfl rfl (by (repeat (first | (refine slot_hit (N := 140) ?_ (by rfl); (repeat (refine sz_put ?_)); assumption; done) | (apply slot_miss; focus rfl))); all_goals assumption) rfl) hS0 (by (repeat (first | (refine slot_hit (N := 140) ?_ (by rfl); (repeat (refine sz_put ?_)); assumption; done) | (apply slot_miss; focus rfl))); all_goals assumption) (fun ev hk hv0 w hS => ?_) ?_; rotate_left; focus (obtain ⟨⟨j1, j2⟩, ⟨j3, j4⟩⟩ := hS; go_simp; rfl)); (refine wt_take1 20 2 (v := ?_) rfl rfl (by kernel_rfl) (by kernel_rfl) (by kernel_rfl) (by kernel_rfl) (fun _ _ _ h => h) (wanted_of rfl rfl (by (repeat (first | (refine slot_hit (N := 140) ?_ (by rfl); (repeat (refine sz_put ?_)); assumption; done) | (apply slot_miss; focus rfl))); all_goals assumption) rfl) hS0 (by (repeat (first | (refine slot_hit (N := 140) ?_ (by rfl); (repeat (refine sz_put ?_)); assumption; done) | (apply slot_miss; focus rfl))); all_goals assumption) (fun ev hk hv0 w hS => ?_) ?_; rotate_left; focus (obtain ⟨⟨j1, j2⟩, ⟨j3, j4⟩⟩ := hS; go_simp; rfl)); (refine wt_take1 21 53 (v := ?_) rfl rfl (by kernel_rfl) (by kernel_rfl) (by kernel_rfl) (by kernel_rfl) (fun _ _ _ h => h) (wanted_of rfl rfl (by (repeat (first | (refine slot_hit (N := 140) ?_ (by rfl); (repeat (refine sz_put ?_)); assumption; done) | (apply slot_miss; focus rfl))); all_goals assumption) rfl) hS0 (by (repeat (first | (refine slot_hit (N := 140) ?_ (by rfl); (repeat (refine sz_put ?_)); assumption; done) | (apply slot_miss; focus rfl))); all_goals assumption) (fun ev hk hv0 w hS => ?_) ?_; rotate_left; focus (obtain ⟨⟨j1, j2⟩, ⟨j3, j4⟩⟩ := hS; go_simp; rfl)); (refine wt_take1 22 54 (v := ?_) rfl rfl (by kernel_rfl) (by kernel_rfl) (by kernel_rfl) (by kernel_rfl) (fun _ _ _ h => h) (wanted_of rfl rfl (by (repeat (first | (refine slot_hit (N := 140) ?_ (by rfl); (repeat (refine sz_put ?_)); assumption; done) | (apply slot_miss; focus rfl))); all_goals assumption) rfl) hS0 (by (repeat (first | (refine slot_hit (N := 140) ?_ (by rfl); (repeat (refine sz_put ?_)); assumption; done) | (apply slot_miss; focus rfl))); all_goals assumption) (fun ev hk hv0 w hS => ?_) ?_; rotate_left; focus (obtain ⟨⟨j1, j2⟩, ⟨j3, j4⟩⟩ := hS; go_simp; rfl))
    (refine wt_take2 23 52 55 (v := ?_) rfl rfl (by kernel_rfl) (by kernel_rfl) (by kernel_rfl) (by kernel_rfl) (fun _ _ _ h => h) (wanted_of rfl rfl (by (repeat (first | (refine slot_hit (N := 140) ?_ (by rfl); (repeat (refine sz_put ?_)); assumption; done) | (apply slot_miss; focus rfl))); all_goals assumption) rfl) hS0 (by (repeat (first | (refine slot_hit (N := 140) ?_ (by rfl); (repeat (refine sz_put ?_)); assumption; done) | (apply slot_miss; focus rfl))); all_goals assumption) (by (repeat (first | (refine slot_hit (N := 140) ?_ (by rfl); (repeat (refine sz_put ?_)); assumption; done) | (apply slot_miss; focus rfl))); all_goals assumption) (fun ev hk hv0 hv1 w hS => ?_) ?_; rotate_left; focus (go_simp; first | exact hcut _ | (rw [hcut]; done) | (simp only [hcut]; done) | rfl))
    (refine wt_take1 24 2 (v := ?_) rfl rfl (by kernel_rfl) (by kernel_rfl) (by kernel_rfl) (by kernel_rfl) (fun _ _ _ h => h) (wanted_of rfl rfl (by (repeat (first | (refine slot_hit (N := 140) ?_ (by rfl); (repeat (refine sz_put ?_)); assumption; done) | (apply slot_miss; focus rfl))); all_goals assumption) rfl) hS0 (by (repeat (first | (refine slot_hit (N := 140) ?_ (by rfl); (repeat (refine sz_put ?_)); assumption; done) | (apply slot_miss; focus rfl))); all_goals assumption) (fun ev hk hv0 w hS => ?_) ?_; rotate_left; focus (obtain ⟨⟨j1, j2⟩, ⟨j3, j4⟩⟩ := hS; go_simp; rfl)); (refine wt_take1 25 57 (v := ?_) rfl rfl (by kernel_rfl) (by kernel_rfl) (by kernel_rfl) (by kernel_rfl) (fun _ _ _ h => h) (wanted_of rfl rfl (by (repeat (first | (refine slot_hit (N := 140) ?_ (by rfl); (repeat (refine sz_put ?_)); assumption; done) | (apply slot_miss; focus rfl))); all_goals assumption) rfl) hS0 (by (repeat (first | (refine slot_hit (N := 140) ?_ (by rfl); (repeat (refine sz_put ?_)); assumption; done) | (apply slot_miss; focus rfl))); all_goals assumption) (fun ev hk hv0 w hS => ?_) ?_; rotate_left; focus (obtain ⟨⟨j1, j2⟩, ⟨j3, j4⟩⟩ := hS; go_simp; rfl))
    refine wt_call2 26 56 58 (by kernel_rfl) rfl rfl (wanted_of rfl rfl (by (repeat (first | (refine slot_hit (N := 140) ?_ (by rfl); (repeat (refine sz_put ?_)); assumption; done) | (apply slot_miss; focus rfl))); all_goals assumption) rfl) (by (repeat (first | (refine slot_hit (N := 140) ?_ (by rfl); (repeat (refine sz_put ?_)); assumption; done) | (apply slot_miss; focus rfl))); all_goals assumption) (by (repeat (first | (refine slot_hit (N := 140) ?_ (by rfl); (repeat (refine sz_put ?_)); assumption; done) | (apply slot_miss; focus rfl))); all_goals assumption) (f := ?_) (args := ?_) (fun ev hk hkf hv0 hv1 => ?_) ?_; rotate_left 2; focus (go_simp; first | rfl | (constructor <;> rfl))
    refine (DS1 _ (below_dn (Below.refl _ _) 1)).mono ?_
    rintro e w4 ⟨rfl, hb4⟩
    have hb4 := bn (below_dn (Below.refl _ _) 1) hb4
    have hS0 := HSk.out w4 hb4
    refine ⟨_, rfl, fun _ => hS0, ?_⟩
    (refine wt_take1 27 59 (v := ?_) rfl rfl (by kernel_rfl) (by kernel_rfl) (by kernel_rfl) (by kernel_rfl) (fun _ _ _ h => h) (wanted_of rfl rfl (by (repeat (first | (refine slot_hit (N := 140) ?_ (by rfl); (repeat (refine sz_put ?_)); assumption; done) | (apply slot_miss; focus rfl))); all_goals assumption) rfl) hS0 (by (repeat (first | (refine slot_hit (N := 140) ?_ (by rfl); (repeat (refine sz_put ?_)); assumption; done) | (apply slot_miss; focus rfl))); all_goals assumption) (fun ev hk hv0 w hS => ?_) ?_; rotate_left; focus (obtain ⟨⟨j1, j2⟩, ⟨j3, j4⟩⟩ := hS; go_simp; rfl)); (refine wt_take2 28 50 60 (v := ?_) rfl rfl (by kernel_rfl) (by kernel_rfl) (by kernel_rfl) (by kernel_rfl) (fun _ _ _ h => h) rfl hS0 (by (repeat (first | (refine slot_hit (N := 140) ?_ (by rfl); (repeat (refine sz_put ?_)); assumption; done) | (apply slot_miss; focus rfl))); all_goals assumption) (by (repeat (first | (refine slot_hit (N := 140) ?_ (by rfl); (repeat (refine sz_put ?_)); assumption; done) | (apply slot_miss; focus rfl))); all_goals assumption) (fun ev hk hv0 hv1 w hS => ?_) ?_; rotate_left; focus (obtain ⟨⟨j1, j2⟩, ⟨j3, j4⟩⟩ := hS; go_simp; rfl)); (refine wt_move 29 61 rfl rfl (by kernel_rfl) (by kernel_rfl) (by kernel_rfl) (by kernel_rfl) (fun _ _ _ h => h) rfl hS0 (by (repeat (first | (refine slot_hit (N := 140) ?_ (by rfl); (repeat (refine sz_put ?_)); assumption; done) | (apply slot_miss; focus rfl))); all_goals assumption) rfl ?_); (refine wt_take1 30 6 (v := ?_) rfl rfl (by kernel_rfl) (by kernel_rfl) (by kernel_rfl) (by kernel_rfl) (fun _ _ _ h => h) (wanted_of rfl rfl (by (repeat (first | (refine slot_hit (N := 140) ?_ (by rfl); (repeat (refine sz_put ?_)); assumption; done) | (apply slot_miss; focus rfl))); all_goals assumption) rfl) hS0 (by (repeat (first | (refine slot_hit (N := 140) ?_ (by rfl); (repeat (refine sz_put ?_)); assumption; done) | (apply slot_miss; focus rfl))); all_goals assumption) (fun ev hk hv0 w hS => ?_) ?_; rotate_left; focus (obtain ⟨⟨j1, j2⟩, ⟨j3, j4⟩⟩ := hS; go_simp; rfl)); (refine wt_take1 31 63 (v := ?_) rfl rfl (by kernel_rfl) (by kernel_rfl) (by kernel_rfl) (by kernel_rfl) (fun _ _ _ h => h) (wanted_of rfl rfl (by (repeat (first | (refine slot_hit (N := 140) ?_ (by rfl); (repeat (refine sz_put ?_)); assumption; done) | (apply slot_miss; focus rfl))); all_goals assumption) rfl) hS0 (by (repeat (first | (refine slot_hit (N := 140) ?_ (by rfl); (repeat (refine sz_put ?_)); assumption; done) | (apply slot_miss; focus rfl))); all_goals assumption) (fun ev hk hv0 w hS => ?_) ?_; rotate_left; focus (obtain ⟨⟨j1, j2⟩, ⟨j3, j4⟩⟩ := hS; go_simp; rfl)); (refine wt_take1 32 2 (v := ?_) rfl rfl (by kernel_rfl) (by kernel_rfl) (by kernel_rfl) (by kernel_rfl) (fun _ _ _ h => h) (wanted_of rfl rfl (by (repeat (first | (refine slot_hit (N := 140) ?_ (by rfl); (repeat (refine sz_put ?_)); assumption; done) | (apply slot_miss; focus rfl))); all_goals assumption) rfl) hS0 (by (repeat (first | (refine slot_hit (N := 140) ?_ (by rfl); (repeat (refine sz_put ?_)); assumption; done) | (apply slot_miss; focus rfl))); all_goals assumption) (fun ev hk hv0 w hS => ?_) ?_; rotate_left; focus (obtain ⟨⟨j1, j2⟩, ⟨j3, j4⟩⟩ := hS; go_simp; rfl)); (refine wt_take1 33 65 (v := ?_) rfl rfl (by kernel_rfl) (by kernel_rfl) (by kernel_rfl) (by kernel_rfl) (fun _ _ _ h => h) (wanted_of rfl rfl (by (repeat (first | (refine slot_hit (N := 140) ?_ (by rfl); (repeat (refine sz_put ?_)); assumption; done) | (apply slot_miss; focus rfl))); all_goals assumption) rfl) hS0 (by (repeat (first | (refine slot_hit (N := 140) ?_ (by rfl); (repeat (refine sz_put ?_)); assumption; done) | (apply slot_miss; focus rfl))); all_goals assumption) (fun ev hk hv0 w hS => ?_) ?_; rotate_left; focus (obtain ⟨⟨j1, j2⟩, ⟨j3, j4⟩⟩ := hS; go_simp; rfl))
    refine wt_call2 34 64 66 (by kernel_rfl) rfl rfl (wanted_of rfl rfl (by (repeat (first | (refine slot_hit (N := 140) ?_ (by rfl); (repeat (refine sz_put ?_)); assumption; done) | (apply slot_miss; focus rfl))); all_goals assumption) rfl) (by (repeat (first | (refine slot_hit (N := 140) ?_ (by rfl); (repeat (refine sz_put ?_)); assumption; done) | (apply slot_miss; focus rfl))); all_goals assumption) (by (repeat (first | (refine slot_hit (N := 140) ?_ (by rfl); (repeat (refine sz_put ?_)); assumption; done) | (apply slot_miss; focus rfl))); all_goals assumption) (f := ?_) (args := ?_) (fun ev hk hkf hv0 hv1 => ?_) ?_; rotate_left 2; focus (go_simp; first | rfl | (constructor <;> rfl))
    refine (DS2 _ hb4).mono ?_
    rintro e w5 ⟨rfl, hb5⟩
    have hb5 := bn hb4 hb5
    have hS0 := HSk.out w5 hb5
    refine ⟨_, rfl, fun _ => hS0, ?_⟩
    (refine wt_take1 35 67 (v := ?_) rfl rfl (by kernel_rfl) (by kernel_rfl) (by kernel_rfl) (by kernel_rfl) (fun _ _ _ h => h) (wanted_of rfl rfl (by (repeat (first | (refine slot_hit (N := 140) ?_ (by rfl); (repeat (refine sz_put ?_)); assumption; done) | (apply slot_miss; focus rfl))); all_goals assumption) rfl) hS0 (by (repeat (first | (refine slot_hit (N := 140) ?_ (by rfl); (repeat (refine sz_put ?_)); assumption; done) | (apply slot_miss; focus rfl))); all_goals assumption) (fun ev hk hv0 w hS => ?_) ?_; rotate_left; focus (obtain ⟨⟨j1, j2⟩, ⟨j3, j4⟩⟩ := hS; go_simp; rfl)); (refine wt_take2 36 62 68 (v := ?_) rfl rfl (by kernel_rfl) (by kernel_rfl) (by kernel_rfl) (by kernel_rfl) (fun _ _ _ h => h) rfl hS0 (by (repeat (first | (refine slot_hit (N := 140) ?_ (by rfl); (repeat (refine sz_put ?_)); assumption; done) | (apply slot_miss; focus rfl))); all_goals assumption) (by (repeat (first | (refine slot_hit (N := 140) ?_ (by rfl); (repeat (refine sz_put ?_)); assumption; done) | (apply slot_miss; focus rfl))); all_goals assumption) (fun ev hk hv0 hv1 w hS => ?_) ?_; rotate_left; focus (obtain ⟨⟨j1, j2⟩, ⟨j3, j4⟩⟩ := hS; go_simp; rfl))
    refine wt_known (N := 140) (by kernel_rfl) (by (repeat (refine sz_put ?_)); assumption) [(1, .slice C nl kc), (5, .bool true), (6, .pointer (some ⟨gx, 0, none⟩)), (7, .int .i64 a), (69, .bool false)] ⟨(by (repeat (first | (refine slot_hit (N := 140) ?_ (by rfl); (repeat (refine sz_put ?_)); assumption; done) | (apply slot_miss; focus rfl))); all_goals assumption), (by (repeat (first | (refine slot_hit (N := 140) ?_ (by rfl); (repeat (refine sz_put ?_)); assumption; done) | (apply slot_miss; focus rfl))); all_goals assumption), (by (repeat (first | (refine slot_hit (N := 140) ?_ (by rfl); (repeat (refine sz_put ?_)); assumption; done) | (apply slot_miss; focus rfl))); all_goals assumption), (by (repeat (first | (refine slot_hit (N := 140) ?_ (by rfl); (repeat (refine sz_put ?_)); assumption; done) | (apply slot_miss; focus rfl))); all_goals assumption), (by (repeat (first | (refine slot_hit (N := 140) ?_ (by rfl); (repeat (refine sz_put ?_)); assumption; done) | (apply slot_miss; focus rfl))); all_goals assumption), trivial⟩ fun fv fl hfl => ?_; obtain rfl : fl = [fv 0, (.slice C nl kc : Value), fv 2, fv 3, fv 4, (.bool true : Value), (.pointer (some ⟨gx, 0, none⟩) : Value), (.int .i64 a : Value), fv 8, fv 9, fv 10, fv 11, fv 12, fv 13, fv 14, fv 15, fv 16, fv 17, fv 18, fv 19, fv 20, fv 21, fv 22, fv 23, fv 24, fv 25, fv 26, fv 27, fv 28, fv 29, fv 30, fv 31, fv 32, fv 33, fv 34, fv 35, fv 36, fv 37, fv 38, fv 39, fv 40, fv 41, fv 42, fv 43, fv 44, fv 45, fv 46, fv 47, fv 48, fv 49, fv 50, fv 51, fv 52, fv 53, fv 54, fv 55, fv 56, fv 57, fv 58, fv 59, fv 60, fv 61, fv 62, fv 63, fv 64, fv 65, fv 66, fv 67, fv 68, (.bool false : Value), fv 70, fv 71, fv 72, fv 73, fv 74, fv 75, fv 76, fv 77, fv 78, fv 79, fv 80, fv 81, fv 82, fv 83, fv 84, fv 85, fv 86, fv 87, fv 88, fv 89, fv 90, fv 91, fv 92, fv 93, fv 94, fv 95, fv 96, fv 97, fv 98, fv 99, fv 100, fv 101, fv 102, fv 103, fv 104, fv 105, fv 106, fv 107, fv 108, fv 109, fv 110, fv 111, fv 112, fv 113, fv 114, fv 115, fv 116, fv 117, fv 118, fv 119, fv 120, fv 121, fv 122, fv 123, fv 124, fv 125, fv 126, fv 127, fv 128, fv 129, fv 130, fv 131, fv 132, fv 133, fv 134, fv 135, fv 136, fv 137, fv 138, fv 139] := hfl.symm.trans (by kernel_rfl); clear hfl
    have HB5 := Lib.hid (And.intro (bn HB3.out.2.1 hb5) (And.intro (HB3.out.2.2.1.on hb5) (HB3.out.2.2.2.on hb5)))
    clear hS0 HSk DS1 DS2 hcut hb5 hb4 gA gB gB' HI4
    go_wp2
    go_loopw [9] (fun i wr => ∃ j : Nat, j ≤ nl ∧ i = .int .i64 (j : Int) ∧ Below w5.heap.size w5 wr) (fun i _ => nl - (intOf i).toNat)
    case atStart => exact ⟨0, Nat.zero_le _, rfl, Below.refl _ _⟩
    case round =>
      obtain ⟨j, hj, rfl, hB⟩ := hrel
      by_cases hlt : j < nl
      · have hjl : j < L.length := by have := HX.out.hnl; omega
        obtain ⟨b, o, rfl, hb0, hcs⟩ := HC.out.1.h (by omega)
        obtain ⟨C', kc', y0, hIc⟩ := hcs j hjl
        have hbw := bn HB5.out.1 hB
        have yy : wr.cell? ⟨b, o + j, none⟩ = some (.slice C' (L.getD j []).length kc') := (hbw.cell (p := ⟨b, o + j, none⟩) hb0).trans y0
        have DS := (HB5.out.2.1.on (bn hB (below_dn (Below.refl wr.heap.size wr) 1))).state (v := v) (by have := HX.out.m2; omega) HX.out.okx (hIc.on (bn hbw (below_dn (Below.refl wr.heap.size wr) 1))) (HX.out.okL _ (gotD_mem hjl)) (nc := (L.getD j []).length) rfl
        have hj1 : (j : Int) < (nl : Int) := by omega
        have hj0 : (0 : Int) ≤ (j : Int) := by omega
        have hw : (a = -1 ∧ (stC x (L.getD j []) = 1 ∨ stC x (L.getD j []) = 2)) ∨ ∃ i : Nat, a = (i : Int) ∧ (j < i → stC x (L.getD j []) ≠ 0) ∧ (j = i → stC x (L.getD j []) = 0) := by
          rcases HX.out.aw with ⟨e, hc⟩ | ⟨i, hi, e, h1, h2⟩
          · refine Or.inl ⟨e, ?_⟩
            have := hc _ (gotD_mem hjl)
            have := stC_range x (L.getD j [])
            omega
          · exact Or.inr ⟨i, e, h2 j, fun e => by rw [e]; exact h1⟩
        generalize stC x (L.getD j []) = sc at DS hw
        generalize stX x (L.getD j []) = sx at DS
        obtain ⟨lc, hlc⟩ : ∃ lc, lc = (L.getD j []).length := ⟨_, rfl⟩
        rw [← hlc] at yy DS
        have HW := Lib.hid hw
        have hS0 : (fun W : World => (W.cell? ⟨gx, 0, none⟩ = some (.int .i64 v) ∧ W.cell? ⟨gx, 1, none⟩ = some (.slice A3 n1 k3) ∧ W.cell? ⟨gx, 2, none⟩ = some (.slice B3 m q3)) ∧ W.cell? ⟨b, o + j, none⟩ = some (.slice C' lc kc')) wr.drew := ⟨(HB5.out.2.2.on hB).c, yy⟩
        have HSk : Hid (∀ W, Below wr.heap.size wr W → (fun W : World => (W.cell? ⟨gx, 0, none⟩ = some (.int .i64 v) ∧ W.cell? ⟨gx, 1, none⟩ = some (.slice A3 n1 k3) ∧ W.cell? ⟨gx, 2, none⟩ = some (.slice B3 m q3)) ∧ W.cell? ⟨b, o + j, none⟩ = some (.slice C' lc kc')) W) := Lib.hid fun W hb => ⟨(HB5.out.2.2.on (bn hB hb)).c, (hb.cell (cell_lt yy)).trans yy⟩
        have HBr := Lib.hid hB
        clear hB hbw hcs y0 hIc hw hlc hj yy
        go_wp2
        refine wp_slots (fun f => Sz f 140 ∧ Slot f 1 (.slice (some ⟨b, o, none⟩) nl kc) ∧ Slot f 6 (.pointer (some ⟨gx, 0, none⟩)) ∧ Slot f 9 (.int .i64 (j : Int))) ⟨⟨rfl, rfl⟩, ⟨rfl⟩, ⟨rfl⟩, ⟨rfl⟩⟩ fun a0' hA0 hR => ?_
        obtain ⟨hZ, hs1, hs6, hs9⟩ := hR
        have HA := Lib.hid hA0
        clear hA0
        refine wp_region_T (fun W : World => (W.cell? ⟨gx, 0, none⟩ = some (.int .i64 v) ∧ W.cell? ⟨gx, 1, none⟩ = some (.slice A3 n1 k3) ∧ W.cell? ⟨gx, 2, none⟩ = some (.slice B3 m q3)) ∧ W.cell? ⟨b, o + j, none⟩ = some (.slice C' lc kc')) 13 (by kernel_rfl) ?_
        refine WT.h ?_
        (refine wt_take1 0 6 (v := ?_) rfl rfl (by kernel_rfl) (by kernel_rfl) (by kernel_rfl) (by kernel_rfl) (fun _ _ _ h => h) rfl hS0 (by (repeat (first | (refine slot_hit (N := 140) ?_ (by rfl); (repeat (refine sz_put ?_)); assumption; done) | (apply slot_miss; focus rfl))); all_goals assumption) (fun ev hk hv0 w hS => ?_) ?_; rotate_left; focus (obtain ⟨⟨j0, j1, j2⟩, j3⟩ := hS; go_simp; rfl)); (refine wt_move 1 1 rfl rfl (by kernel_rfl) (by kernel_rfl) (by kernel_rfl) (by kernel_rfl) (fun _ _ _ h => h) rfl hS0 (by (repeat (first | (refine slot_hit (N := 140) ?_ (by rfl); (repeat (refine sz_put ?_)); assumption; done) | (apply slot_miss; focus rfl))); all_goals assumption) rfl ?_); (refine wt_move 2 9 rfl rfl (by kernel_rfl) (by kernel_rfl) (by kernel_rfl) (by kernel_rfl) (fun _ _ _ h => h) rfl hS0 (by (repeat (first | (refine slot_hit (N := 140) ?_ (by rfl); (repeat (refine sz_put ?_)); assumption; done) | (apply slot_miss; focus rfl))); all_goals assumption) rfl ?_); (refine wt_take2 3 78 79 (v := ?_) rfl rfl (by kernel_rfl) (by kernel_rfl) (by kernel_rfl) (by kernel_rfl) (fun _ _ _ h => h) rfl hS0 (by (repeat (first | (refine slot_hit (N := 140) ?_ (by rfl); (repeat (refine sz_put ?_)); assumption; done) | (apply slot_miss; focus rfl))); all_goals assumption) (by (repeat (first | (refine slot_hit (N := 140) ?_ (by rfl); (repeat (refine sz_put ?_)); assumption; done) | (apply slot_miss; focus rfl))); all_goals assumption) (fun ev hk hv0 hv1 w hS => ?_) ?_; rotate_left; focus (obtain ⟨⟨j0, j1, j2⟩, j3⟩ := hS; go_simp; rfl)); (refine wt_take1 4 80 (v := ?_) rfl rfl (by kernel_rfl) (by kernel_rfl) (by kernel_rfl) (by kernel_rfl) (fun _ _ _ h => h) rfl hS0 (by (repeat (first | (refine slot_hit (N := 140) ?_ (by rfl); (repeat (refine sz_put ?_)); assumption; done) | (apply slot_miss; focus rfl))); all_goals assumption) (fun ev hk hv0 w hS => ?_) ?_; rotate_left; focus (obtain ⟨⟨j0, j1, j2⟩, j3⟩ := hS; go_simp; rfl))
        refine wt_call2 5 77 81 (by kernel_rfl) rfl rfl rfl (by (repeat (first | (refine slot_hit (N := 140) ?_ (by rfl); (repeat (refine sz_put ?_)); assumption; done) | (apply slot_miss; focus rfl))); all_goals assumption) (by (repeat (first | (refine slot_hit (N := 140) ?_ (by rfl); (repeat (refine sz_put ?_)); assumption; done) | (apply slot_miss; focus rfl))); all_goals assumption) (f := ?_) (args := ?_) (fun ev hk hkf hv0 hv1 => ?_) ?_; rotate_left 2; focus (go_simp; first | rfl | (constructor <;> rfl))
        refine DS.mono ?_
        rintro e w6 ⟨rfl, hb6⟩
        have hb6 := bn (below_dn (Below.refl _ _) 1) hb6
        have hS0 := HSk.out w6 hb6
        refine ⟨_, rfl, fun _ => hS0, ?_⟩
        have HB6 := Lib.hid (bn HBr.out hb6)
        clear hb6 DS
        (refine wt_move 6 82 rfl rfl (by kernel_rfl) (by kernel_rfl) (by kernel_rfl) (by kernel_rfl) (fun _ _ _ h => h) rfl hS0 (by (repeat (first | (refine slot_hit (N := 140) ?_ (by rfl); (repeat (refine sz_put ?_)); assumption; done) | (apply slot_miss; focus rfl))); all_goals assumption) rfl ?_); (refine wt_take1 7 76 (v := ?_) rfl rfl (by kernel_rfl) (by kernel_rfl) (by kernel_rfl) (by kernel_rfl) (fun _ _ _ h => h) rfl hS0 (by (repeat (first | (refine slot_hit (N := 140) ?_ (by rfl); (repeat (refine sz_put ?_)); assumption; done) | (apply slot_miss; focus rfl))); all_goals assumption) (fun ev hk hv0 w hS => ?_) ?_; rotate_left; focus (obtain ⟨⟨j0, j1, j2⟩, j3⟩ := hS; go_simp; rfl)); (refine wt_take1 8 76 (v := ?_) rfl rfl (by kernel_rfl) (by kernel_rfl) (by kernel_rfl) (by kernel_rfl) (fun _ _ _ h => h) rfl hS0 (by (repeat (first | (refine slot_hit (N := 140) ?_ (by rfl); (repeat (refine sz_put ?_)); assumption; done) | (apply slot_miss; focus rfl))); all_goals assumption) (fun ev hk hv0 w hS => ?_) ?_; rotate_left; focus (obtain ⟨⟨j0, j1, j2⟩, j3⟩ := hS; go_simp; rfl)); (refine wt_take1 9 76 (v := ?_) rfl rfl (by kernel_rfl) (by kernel_rfl) (by kernel_rfl) (by kernel_rfl) (fun _ _ _ h => h) rfl hS0 (by (repeat (first | (refine slot_hit (N := 140) ?_ (by rfl); (repeat (refine sz_put ?_)); assumption; done) | (apply slot_miss; focus rfl))); all_goals assumption) (fun ev hk hv0 w hS => ?_) ?_; rotate_left; focus (obtain ⟨⟨j0, j1, j2⟩, j3⟩ := hS; go_simp; rfl)); (refine wt_assign 10 83 rfl rfl (by kernel_rfl) (by kernel_rfl) (by kernel_rfl) (by kernel_rfl) (fun _ _ _ h => h) rfl hS0 (by (repeat (first | (refine slot_hit (N := 140) ?_ (by rfl); (repeat (refine sz_put ?_)); assumption; done) | (apply slot_miss; focus rfl))); all_goals assumption) rfl ?_); (refine wt_assign 11 84 rfl rfl (by kernel_rfl) (by kernel_rfl) (by kernel_rfl) (by kernel_rfl) (fun _ _ _ h => h) rfl hS0 (by (repeat (first | (refine slot_hit (N := 140) ?_ (by rfl); (repeat (refine sz_put ?_)); assumption; done) | (apply slot_miss; focus rfl))); all_goals assumption) rfl ?_); (refine wt_assign 12 85 rfl rfl (by kernel_rfl) (by kernel_rfl) (by kernel_rfl) (by kernel_rfl) (fun _ _ _ h => h) rfl hS0 (by (repeat (first | (refine slot_hit (N := 140) ?_ (by rfl); (repeat (refine sz_put ?_)); assumption; done) | (apply slot_miss; focus rfl))); all_goals assumption) rfl ?_)
        refine wt_done (by kernel_rfl) (NoPanic.normal ?_) _
        have ha := HA.out
        subst ha
        clear hs1 hs6 hs9 hZ hS0 HSk
        rcases HW.out with ⟨rfl, hsc⟩ | ⟨i, rfl, h1, h2⟩
        · have f1 : decide ((j : Int) < -1) = false := decide_eq_false (by omega)
          have f2 : ((j : Int) == -1) = false := by simp
          clear eaa
          rcases hsc with rfl | rfl
          · go_wp2
            go_roundw
            case rel => exact ⟨j + 1, by omega, by go_num, HB6.out⟩
            case measure => simp [intOf]; omega
          · go_wp2
            go_roundw
            case rel => exact ⟨j + 1, by omega, by go_num, HB6.out⟩
            case measure => simp [intOf]; omega
        · have f0 : decide ((i : Int) < 0) = false := decide_eq_false (by omega)
          clear eaa
          rcases Nat.lt_trichotomy j i with hji | hji | hji
          · have f1 : decide (j < i) = true := decide_eq_true hji
            have f1' : decide ((j : Int) < (i : Int)) = true := decide_eq_true (by omega)
            have f2 : ((j : Int) == (i : Int)) = false := by simpa using (show ¬ (j : Int) = (i : Int) by omega)
            have f2' : (j == i) = false := by simpa using (show ¬ j = i by omega)
            have f3 : (sc == 0) = false := by simpa using h1 hji
            clear h1 h2
            go_wp2
            go_roundw
            case rel => exact ⟨j + 1, by omega, by go_num, HB6.out⟩
            case measure => simp [intOf]; omega
          · subst hji
            obtain rfl := h2 rfl
            have f1 : decide ((j : Int) < (j : Int)) = false := decide_eq_false (by omega)
            have f2 : ((j : Int) == (j : Int)) = true := by simp
            clear h1 h2
            go_wp2
            go_roundw
            case rel => exact ⟨j + 1, by omega, by go_num, HB6.out⟩
            case measure => simp [intOf]; omega
          · have f1 : decide (j < i) = false := decide_eq_false (by omega)
            have f1' : decide ((j : Int) < (i : Int)) = false := decide_eq_false (by omega)
            have f2 : ((j : Int) == (i : Int)) = false := by simpa using (show ¬ (j : Int) = (i : Int) by omega)
            have f2' : (j == i) = false := by simpa using (show ¬ j = i by omega)
            clear h1 h2
            go_wp2
            go_roundw
            case rel => exact ⟨j + 1, by omega, by go_num, HB6.out⟩
            case measure => simp [intOf]; omega
      · have hjn : ¬ (j : Int) < (nl : Int) := by omega
        obtain ⟨c0, c1, c2⟩ := (HB5.out.2.2.on hB).c
        have HBr := Lib.hid hB
        clear hB
        go_wp2_with (first
          | (go_at_call 14; (with_reducible refine (D2 _ _ _ _ _ _ (bn HB5.out.1 HBr.out) (HB5.out.2.1.on HBr.out)).mono ?_); rintro e w7 ⟨A7, k7, B7, q7, rfl, hN7, hb7⟩
             have hz := bx_on w7 (.cells #[.int .i64 v, .slice A7 n1 k7, .slice B7 m q7] 24)
             have hbz := bn (bn HBr.out hb7) hz
             have HB7 := Lib.hid (And.intro (bn HB5.out.1 hbz) (And.intro (HB5.out.2.1.on hbz) (And.intro (HB5.out.2.2.on hbz) (And.intro (hN7.on hz) (Bs.new w7 (.int .i64 v) (.slice A7 n1 k7) (.slice B7 m q7))))))
             obtain ⟨d0, d1, d2⟩ := HB7.out.2.2.1.c
             obtain ⟨e0, e1, e2⟩ := HB7.out.2.2.2.2.c
             clear hN7 hb7 hz hbz)
          | (go_at_call 16; (with_reducible refine (Nw.same (v := v) HB7.out.2.2.2.1 (by have := HX.out.n1k; omega) (by have := HX.out.m2; omega) HB7.out.2.1).mono ?_); rintro e w8 ⟨rfl, hb8⟩
             have HB8 := Lib.hid (bn HB7.out.1 hb8)
             clear hb8))
        go_ret
        exact ⟨rfl, HB8.out⟩

end Go.Proofs.YtecmldnigohjfaaDoor
