/- The reference's contract: Resolve. -/
import Derived.Test.YtigfdfbjpelcaaaClRef4
namespace Go.Proofs.Ytigfdfbjpelcaaa
open Go Go.RowKit
set_option linter.unusedVariables false
set_option linter.unusedSimpArgs false

/-- the other literals of one clause -/
theorem wo_one {n : Int} {l : List Int} {x y : Int} (ho : OkC n l) (hy : y ∈ l) (e : y / 2 = x) : (l.filter fun z => !decide (z = y)) = l.filter fun z => !decide (z / 2 = x) := by
  refine List.filter_congr fun z hz => ?_
  congr 1
  rw [Bool.eq_iff_iff, decide_eq_true_iff, decide_eq_true_iff]
  exact ⟨fun h => by rw [h]; exact e, fun h => ho.one hz hy (by omega)⟩
theorem rv_split (a b : List Int) (x : Int) : rvL a b x = (a.filter fun z => !decide (z / 2 = x)) ++ b.filter fun z => !decide (z / 2 = x) := by unfold rvL; rw [List.filter_append]

set_option maxRecDepth 100000 in
set_option maxHeartbeats 4000000 in
theorem rResolve_any (v : Int) (A : Option Addr) (l : List Int) (k : Nat) (A' : Option Addr) (l' : List Int) (k' : Nat) (x : Int) (w : World) (h : Ia w w.heap.size A l k) (hl : l.length ≤ 40000) (hr : ∀ x ∈ l, I64 x) (h' : Ia w w.heap.size A' l' k') (hl' : l'.length ≤ 40000) (hr' : ∀ x ∈ l', I64 x) :
    Calls Try.prog 20 #[.int .i64 v, .slice A l.length k, .slice A' l'.length k', .int .i64 x] w (LsIs3 (rvC v l l' x) (rvA v l l' x) (rvE v l l' x) w) := by
  by_cases hv : v < 0 ∨ 4000 < v
  · have ev : (!decide (v < 0 ∨ 4000 < v)) = false := by simp [hv]
    have e1 : imE v l l' = 2 := by unfold imE; rw [if_pos hv]
    obtain ⟨r1, r2, r3⟩ := rv_im (n := v) (a := l) (b := l') (v := x) (by omega)
    rw [r1, r2, r3, e1]
    clear h hl hr h' hl' hr' e1 r1 r2 r3
    go_enter Try.func20, Try.ntmps20
    go_wp2_with (first | (go_at_call 33; (with_reducible refine (rVars_any v _).mono ?_); rintro e w1 ⟨rfl, hw1⟩; obtain rfl := hw1; rw [ev]))
    go_ret3
    exact ⟨none, 0, rfl, Ia.nil _ _, Below.refl _ _⟩
  · have ev : (!decide (v < 0 ∨ 4000 < v)) = true := by simp [hv]
    have D1 := rValid_any v (by omega) A l k w h (by omega) hr
    have D2 := fun d => rValid_any v (by omega) A' l' k' (w.drewN d) (h'.on (below_dn (Below.refl _ _) d)) (by omega) hr'
    cases h1 : okC v l with
    | false =>
      have e1 : imE v l l' = 8 := by unfold imE; rw [if_neg hv, if_neg (by rw [h1]; simp)]
      obtain ⟨r1, r2, r3⟩ := rv_im (n := v) (a := l) (b := l') (v := x) (by omega)
      rw [r1, r2, r3, e1]
      rw [h1] at D1
      obtain ⟨n, hn⟩ : ∃ n, n = l.length := ⟨_, rfl⟩
      obtain ⟨n', hn'⟩ : ∃ n, n = l'.length := ⟨_, rfl⟩
      rw [← hn] at D1 ⊢
      rw [← hn']
      clear h hl hr h' hl' hr' e1 h1 D2 hn hn' r1 r2 r3
      go_enter Try.func20, Try.ntmps20
      go_wp2_with (first
        | (go_at_call 33; (with_reducible refine (rVars_any v _).mono ?_); rintro e w1 ⟨rfl, hw1⟩; obtain rfl := hw1; rw [ev])
        | (go_at_call 37; (with_reducible refine D1.mono ?_); rintro e w1 ⟨rfl, d, rfl⟩))
      go_ret3
      exact ⟨none, 0, rfl, Ia.nil _ _, below_dn (Below.refl _ _) _⟩
    | true =>
      cases h2 : okC v l' with
      | false =>
        have e1 : imE v l l' = 8 := by unfold imE; rw [if_neg hv, if_neg (by rw [h2]; simp)]
        obtain ⟨r1, r2, r3⟩ := rv_im (n := v) (a := l) (b := l') (v := x) (by omega)
        rw [r1, r2, r3, e1]
        rw [h1] at D1
        rw [h2] at D2
        obtain ⟨n, hn⟩ : ∃ n, n = l.length := ⟨_, rfl⟩
        obtain ⟨n', hn'⟩ : ∃ n, n = l'.length := ⟨_, rfl⟩
        rw [← hn] at D1 ⊢
        rw [← hn'] at D2 ⊢
        clear h hl hr h' hl' hr' e1 h1 h2 hn hn' r1 r2 r3
        go_enter Try.func20, Try.ntmps20
        go_wp2_with (first
          | (go_at_call 33; (with_reducible refine (rVars_any v _).mono ?_); rintro e w1 ⟨rfl, hw1⟩; obtain rfl := hw1; rw [ev])
          | (go_at_call 37; (with_reducible refine D1.mono ?_); rintro e w1 ⟨rfl, d, rfl⟩)
          | (go_at_call 37; (with_reducible refine (D2 d).mono ?_); rintro e w2 ⟨rfl, d2, rfl⟩))
        go_ret3
        exact ⟨none, 0, rfl, Ia.nil _ _, by first | exact below_dn (Below.refl _ _) _ | exact below_dn (below_dn (Below.refl _ _) _) _⟩
      | true =>
        have e1 : imE v l l' = 0 := by unfold imE; rw [if_neg hv, if_pos ⟨h1, h2⟩]
        have ho := okC_iff.1 h1
        have ho' := okC_iff.1 h2
        have v0 : 0 ≤ v ∧ v ≤ 4000 := by omega
        rw [h1] at D1
        rw [h2] at D2
        have H1 := fun z d => rHas_any A l k z w.heap.size (w.drewN d) (h.keep (below_dn (Below.refl _ _) d)) (by omega)
        have H2 := fun z d => rHas_any A' l' k' z w.heap.size (w.drewN d) (h'.keep (below_dn (Below.refl _ _) d)) (by omega)
        have W1 := fun z d => rWithout_any A l k z w.heap.size (w.drewN d) (h.keep (below_dn (Below.refl _ _) d)) (Nat.le_refl _) (by omega)
        have W2 := fun z (W : World) (hb : Below w.heap.size w W) => rWithout_any A' l' k' z w.heap.size W (h'.keep hb) hb.size (by omega)
        obtain ⟨v0, v1⟩ := v0
        have HH := Lib.hid (And.intro hl (And.intro hl' (And.intro ho (And.intro ho' e1))))
        obtain ⟨n, hn⟩ : ∃ n, n = l.length := ⟨_, rfl⟩
        obtain ⟨n', hn'⟩ : ∃ n, n = l'.length := ⟨_, rfl⟩
        rw [← hn] at D1 H1 W1 ⊢
        rw [← hn'] at D2 H2 W2 ⊢
        clear h hl hr h' hl' hr' h1 h2 hn hn' ho ho' e1 hv
        by_cases hx : x < 1 ∨ v < x
        · obtain ⟨r1, r2, r3⟩ := rv_no (v := x) HH.out.2.2.2.2 (rvOk_no (Or.inl fun y hy => by have := isL_iff.1 (HH.out.2.2.1.1 y hy); omega))
          rw [r1, r2, r3]
          clear r1 r2 r3
          by_cases hx1 : x < 1
          · clear hx
            go_enter Try.func20, Try.ntmps20
            go_wp2_with (first
              | (go_at_call 33; (with_reducible refine (rVars_any v _).mono ?_); rintro e w1 ⟨rfl, hw1⟩; obtain rfl := hw1; rw [ev])
              | (go_at_call 37; (with_reducible refine D1.mono ?_); rintro e w1 ⟨rfl, d, rfl⟩)
              | (go_at_call 37; (with_reducible refine (D2 d).mono ?_); rintro e w2 ⟨rfl, d2, rfl⟩))
            go_ret3
            exact ⟨none, 0, rfl, Ia.nil _ _, by first | exact below_dn (Below.refl _ _) _ | exact below_dn (below_dn (Below.refl _ _) _) _⟩
          · have hx2 : v < x := by omega
            clear hx
            go_enter Try.func20, Try.ntmps20
            go_wp2_with (first
              | (go_at_call 33; (with_reducible refine (rVars_any v _).mono ?_); rintro e w1 ⟨rfl, hw1⟩; obtain rfl := hw1; rw [ev])
              | (go_at_call 37; (with_reducible refine D1.mono ?_); rintro e w1 ⟨rfl, d, rfl⟩)
              | (go_at_call 37; (with_reducible refine (D2 d).mono ?_); rintro e w2 ⟨rfl, d2, rfl⟩))
            go_ret3
            exact ⟨none, 0, rfl, Ia.nil _ _, by first | exact below_dn (Below.refl _ _) _ | exact below_dn (below_dn (Below.refl _ _) _) _⟩
        · have x0 : ¬ x < 1 := by omega
          have x1 : ¬ v < x := by omega
          have x2 : 1 ≤ x := by omega
          have x3 : x ≤ 4000 := by omega
          have ng0 : ng (2 * x) = 2 * x + 1 := by unfold ng; rw [if_pos (by omega)]
          have ng1 : ng (2 * x + 1) = 2 * x := by unfold ng; rw [if_neg (by omega)]; omega
          have N0 := fun W => rNot_any (2 * x) (by omega) W
          have N1 := fun W => rNot_any (2 * x + 1) (by omega) W
          rw [ng0] at N0
          rw [ng1] at N1
          clear hx ng0 ng1
          cases c1 : hs l (2 * x + 1) with
          | true =>
            have G1 := H1 (2 * x + 1)
            rw [c1] at G1
            have m1 := hs_iff.1 c1
            cases c2 : hs l' (2 * x) with
            | false =>
              have G2 := H2 (2 * x)
              rw [c2] at G2
              obtain ⟨r1, r2, r3⟩ := rv_no (v := x) HH.out.2.2.2.2 (by
                rw [← Bool.not_eq_true, rvOk_iff]
                rintro (⟨p, q⟩ | ⟨p, q⟩)
                · have := HH.out.2.2.1.one p m1 (by omega); omega
                · exact hs_no.1 c2 q)
              rw [r1, r2, r3]
              clear r1 r2 r3 c1 c2 m1 H1 H2 W1 W2
              go_enter Try.func20, Try.ntmps20
              go_wp2_with (first
                | (go_at_call 33; (with_reducible refine (rVars_any v _).mono ?_); rintro e w1 ⟨rfl, hw1⟩; obtain rfl := hw1; rw [ev])
                | (go_at_call 37; (with_reducible refine D1.mono ?_); rintro e w1 ⟨rfl, d, rfl⟩)
                | (go_at_call 37; (with_reducible refine (D2 d).mono ?_); rintro e w2 ⟨rfl, d2, rfl⟩)
                | (go_at_call 23; (with_reducible refine (G1 _).mono ?_); rintro e w3 ⟨rfl, rfl⟩)
                | (go_at_call 23; (with_reducible refine (G2 _).mono ?_); rintro e w3 ⟨rfl, rfl⟩)
                | (go_at_call 45; (with_reducible refine (N1 _).mono ?_); rintro e w3 ⟨rfl, rfl⟩))
              go_ret3
              exact ⟨none, 0, rfl, Ia.nil _ _, by first | exact below_dn (Below.refl _ _) _ | exact below_dn (below_dn (Below.refl _ _) _) _⟩
            | true =>
              have G2 := H2 (2 * x)
              rw [c2] at G2
              have m2 := hs_iff.1 c2
              obtain ⟨r1, r2, r3⟩ := rv_yes (v := x) HH.out.2.2.2.2 (rvOk_iff.2 (Or.inr ⟨m1, m2⟩))
              have em : rvE v l l' x = mkE v (rvL l l' x) := by rw [r1]; exact (rv_mk r1).symm
              rw [em, r2, r3]
              have G3 := W1 (2 * x + 1)
              have G4 := W2 (2 * x)
              have e6 : (l.filter fun z => !decide (z = 2 * x + 1)) ++ (l'.filter fun z => !decide (z = 2 * x)) = rvL l l' x := by
                rw [rv_split, wo_one HH.out.2.2.1 m1 (show (2 * x + 1) / 2 = x by omega), wo_one HH.out.2.2.2.1 m2 (show (2 * x) / 2 = x by omega)]
              have la1 : (l.filter fun z => !decide (z = 2 * x + 1)).length ≤ 40000 := Nat.le_trans (List.length_filter_le _ _) HH.out.1
              have lb1 : (l'.filter fun z => !decide (z = 2 * x)).length ≤ 40000 := Nat.le_trans (List.length_filter_le _ _) HH.out.2.1
              obtain ⟨la, hla⟩ : ∃ la, la = l.filter fun z => !decide (z = 2 * x + 1) := ⟨_, rfl⟩
              obtain ⟨lb, hlb⟩ : ∃ lb, lb = l'.filter fun z => !decide (z = 2 * x) := ⟨_, rfl⟩
              obtain ⟨lr, hlr⟩ : ∃ lr, lr = rvL l l' x := ⟨_, rfl⟩
              rw [← hla] at G3 e6 la1
              rw [← hlb] at G4 e6 lb1
              rw [← hlr] at e6 ⊢
              have lr1 : lr.length ≤ 100000 := by rw [← e6, List.length_append]; omega
              have HE := Lib.hid (And.intro e6 (And.intro la1 (And.intro lb1 lr1)))
              clear r1 r2 r3 c1 c2 m1 m2 H1 H2 W1 W2 em e6 la1 lb1 hla hlb hlr lr1
              go_enter Try.func20, Try.ntmps20
              go_wp2_with (first
                | (go_at_call 33; (with_reducible refine (rVars_any v _).mono ?_); rintro e w1 ⟨rfl, hw1⟩; obtain rfl := hw1; rw [ev])
                | (go_at_call 37; (with_reducible refine D1.mono ?_); rintro e w1 ⟨rfl, d, rfl⟩)
                | (go_at_call 37; (with_reducible refine (D2 d).mono ?_); rintro e w2 ⟨rfl, d2, rfl⟩)
                | (go_at_call 23; (with_reducible refine (G1 _).mono ?_); rintro e w3 ⟨rfl, rfl⟩)
                | (go_at_call 23; (with_reducible refine (G2 _).mono ?_); rintro e w3 ⟨rfl, rfl⟩)
                | (go_at_call 45; (with_reducible refine (N1 _).mono ?_); rintro e w3 ⟨rfl, rfl⟩)
                | (go_at_call 46; (with_reducible refine (G3 _).mono ?_); rintro e w4 ⟨v4, rfl, ho4, hb4⟩
                   have hB4 : Below w.heap.size w w4 := (below_dn (Below.refl _ _) _).trans hb4
                   have hO4 : Io w.heap.size w4 v4 la := ho4)
                | (go_at_call 46; (with_reducible refine (G4 w4 hB4).mono ?_); rintro e w5 ⟨v5, rfl, ho5, hb5⟩
                   have hO5 := hO4.keep hb5
                   have hB5 : Below w.heap.size w w5 := Below.step hB4 hB4.size hb5
                   obtain ⟨A5, k5, rfl, hI5⟩ := ho5.at)
                | (at_builtin
                   (refine io_append rfl (.tmp 54) (.tmp 58) rfl w.heap.size _ la rfl hO5 A5 _ k5 lb rfl rfl hI5.src (by have := HE.out.2.1; have := HE.out.2.2.1; omega) hB5.size ?_)
                   intro v6 w6 ho6 hb6
                   rw [HE.out.1] at ho6
                   have hB6 : Hid (Below w.heap.size w w6) := Lib.hid (hB5.trans hb6)
                   obtain ⟨A6, k6, rfl, hI6⟩ := ho6.at
                   have hmk := rMake_any v A6 lr k6 w6 hI6 HE.out.2.2.2)
                | (go_at_call 11; (with_reducible refine hmk.mono ?_); rintro e w7 ⟨A7, k7, rfl, hI7, hb7⟩))
              go_ret3
              exact ⟨A7, k7, rfl, hI7, Below.step hB6.out hB6.out.size hb7⟩
          | false =>
            have G1 := H1 (2 * x + 1)
            rw [c1] at G1
            have n1 := hs_no.1 c1
            cases c2 : hs l (2 * x) with
            | false =>
              have G2 := H1 (2 * x)
              rw [c2] at G2
              obtain ⟨r1, r2, r3⟩ := rv_no (v := x) HH.out.2.2.2.2 (by
                rw [← Bool.not_eq_true, rvOk_iff]
                rintro (⟨p, q⟩ | ⟨p, q⟩)
                · exact hs_no.1 c2 p
                · exact n1 p)
              rw [r1, r2, r3]
              clear r1 r2 r3 c1 c2 n1 H1 H2 W1 W2
              go_enter Try.func20, Try.ntmps20
              go_wp2_with (first
                | (go_at_call 33; (with_reducible refine (rVars_any v _).mono ?_); rintro e w1 ⟨rfl, hw1⟩; obtain rfl := hw1; rw [ev])
                | (go_at_call 37; (with_reducible refine D1.mono ?_); rintro e w1 ⟨rfl, d, rfl⟩)
                | (go_at_call 37; (with_reducible refine (D2 d).mono ?_); rintro e w2 ⟨rfl, d2, rfl⟩)
                | (go_at_call 23; (with_reducible refine (G1 _).mono ?_); rintro e w3 ⟨rfl, rfl⟩)
                | (go_at_call 23; (with_reducible refine (G2 _).mono ?_); rintro e w3 ⟨rfl, rfl⟩))
              go_ret3
              exact ⟨none, 0, rfl, Ia.nil _ _, by first | exact below_dn (Below.refl _ _) _ | exact below_dn (below_dn (Below.refl _ _) _) _⟩
            | true =>
              have G2 := H1 (2 * x)
              rw [c2] at G2
              have m1 := hs_iff.1 c2
              clear c1
              cases c1 : hs l' (2 * x + 1) with
              | false =>
                have G5 := H2 (2 * x + 1)
                rw [c1] at G5
                obtain ⟨r1, r2, r3⟩ := rv_no (v := x) HH.out.2.2.2.2 (by
                  rw [← Bool.not_eq_true, rvOk_iff]
                  rintro (⟨p, q⟩ | ⟨p, q⟩)
                  · exact hs_no.1 c1 q
                  · exact n1 p)
                rw [r1, r2, r3]
                clear r1 r2 r3 c1 c2 n1 m1 H1 H2 W1 W2
                go_enter Try.func20, Try.ntmps20
                go_wp2_with (first
                | (go_at_call 33; (with_reducible refine (rVars_any v _).mono ?_); rintro e w1 ⟨rfl, hw1⟩; obtain rfl := hw1; rw [ev])
                | (go_at_call 37; (with_reducible refine D1.mono ?_); rintro e w1 ⟨rfl, d, rfl⟩)
                | (go_at_call 37; (with_reducible refine (D2 d).mono ?_); rintro e w2 ⟨rfl, d2, rfl⟩)
                | (go_at_call 23; (with_reducible refine (G1 _).mono ?_); rintro e w3 ⟨rfl, rfl⟩)
                | (go_at_call 23; (with_reducible refine (G2 _).mono ?_); rintro e w3 ⟨rfl, rfl⟩)
                | (go_at_call 23; (with_reducible refine (G5 _).mono ?_); rintro e w3 ⟨rfl, rfl⟩)
                | (go_at_call 45; (with_reducible refine (N0 _).mono ?_); rintro e w3 ⟨rfl, rfl⟩))
                go_ret3
                exact ⟨none, 0, rfl, Ia.nil _ _, by first | exact below_dn (Below.refl _ _) _ | exact below_dn (below_dn (Below.refl _ _) _) _⟩
              | true =>
                have G5 := H2 (2 * x + 1)
                rw [c1] at G5
                have m2 := hs_iff.1 c1
                obtain ⟨r1, r2, r3⟩ := rv_yes (v := x) HH.out.2.2.2.2 (rvOk_iff.2 (Or.inl ⟨m1, m2⟩))
                have em : rvE v l l' x = mkE v (rvL l l' x) := by rw [r1]; exact (rv_mk r1).symm
                rw [em, r2, r3]
                have G3 := W1 (2 * x)
                have G4 := W2 (2 * x + 1)
                have e6 : (l.filter fun z => !decide (z = 2 * x)) ++ (l'.filter fun z => !decide (z = 2 * x + 1)) = rvL l l' x := by
                  rw [rv_split, wo_one HH.out.2.2.1 m1 (show (2 * x) / 2 = x by omega), wo_one HH.out.2.2.2.1 m2 (show (2 * x + 1) / 2 = x by omega)]
                have la1 : (l.filter fun z => !decide (z = 2 * x)).length ≤ 40000 := Nat.le_trans (List.length_filter_le _ _) HH.out.1
                have lb1 : (l'.filter fun z => !decide (z = 2 * x + 1)).length ≤ 40000 := Nat.le_trans (List.length_filter_le _ _) HH.out.2.1
                obtain ⟨la, hla⟩ : ∃ la, la = l.filter fun z => !decide (z = 2 * x) := ⟨_, rfl⟩
                obtain ⟨lb, hlb⟩ : ∃ lb, lb = l'.filter fun z => !decide (z = 2 * x + 1) := ⟨_, rfl⟩
                obtain ⟨lr, hlr⟩ : ∃ lr, lr = rvL l l' x := ⟨_, rfl⟩
                rw [← hla] at G3 e6 la1
                rw [← hlb] at G4 e6 lb1
                rw [← hlr] at e6 ⊢
                have lr1 : lr.length ≤ 100000 := by rw [← e6, List.length_append]; omega
                have HE := Lib.hid (And.intro e6 (And.intro la1 (And.intro lb1 lr1)))
                clear r1 r2 r3 c1 c2 m1 m2 n1 H1 H2 W1 W2 em e6 la1 lb1 hla hlb hlr lr1
                go_enter Try.func20, Try.ntmps20
                go_wp2_with (first
                  | (go_at_call 33; (with_reducible refine (rVars_any v _).mono ?_); rintro e w1 ⟨rfl, hw1⟩; obtain rfl := hw1; rw [ev])
                  | (go_at_call 37; (with_reducible refine D1.mono ?_); rintro e w1 ⟨rfl, d, rfl⟩)
                  | (go_at_call 37; (with_reducible refine (D2 d).mono ?_); rintro e w2 ⟨rfl, d2, rfl⟩)
                  | (go_at_call 23; (with_reducible refine (G1 _).mono ?_); rintro e w3 ⟨rfl, rfl⟩)
                  | (go_at_call 23; (with_reducible refine (G2 _).mono ?_); rintro e w3 ⟨rfl, rfl⟩)
                  | (go_at_call 23; (with_reducible refine (G5 _).mono ?_); rintro e w3 ⟨rfl, rfl⟩)
                  | (go_at_call 45; (with_reducible refine (N0 _).mono ?_); rintro e w3 ⟨rfl, rfl⟩)
                  | (go_at_call 46; (with_reducible refine (G3 _).mono ?_); rintro e w4 ⟨v4, rfl, ho4, hb4⟩
                     have hB4 : Below w.heap.size w w4 := (below_dn (Below.refl _ _) _).trans hb4
                     have hO4 : Io w.heap.size w4 v4 la := ho4)
                  | (go_at_call 46; (with_reducible refine (G4 w4 hB4).mono ?_); rintro e w5 ⟨v5, rfl, ho5, hb5⟩
                     have hO5 := hO4.keep hb5
                     have hB5 : Below w.heap.size w w5 := Below.step hB4 hB4.size hb5
                     obtain ⟨A5, k5, rfl, hI5⟩ := ho5.at)
                  | (at_builtin
                     (refine io_append rfl (.tmp 54) (.tmp 58) rfl w.heap.size _ la rfl hO5 A5 _ k5 lb rfl rfl hI5.src (by have := HE.out.2.1; have := HE.out.2.2.1; omega) hB5.size ?_)
                     intro v6 w6 ho6 hb6
                     rw [HE.out.1] at ho6
                     have hB6 : Hid (Below w.heap.size w w6) := Lib.hid (hB5.trans hb6)
                     obtain ⟨A6, k6, rfl, hI6⟩ := ho6.at
                     have hmk := rMake_any v A6 lr k6 w6 hI6 HE.out.2.2.2)
                  | (go_at_call 11; (with_reducible refine hmk.mono ?_); rintro e w7 ⟨A7, k7, rfl, hI7, hb7⟩))
                go_ret3
                exact ⟨A7, k7, rfl, hI7, Below.step hB6.out hB6.out.size hb7⟩

end Go.Proofs.Ytigfdfbjpelcaaa
