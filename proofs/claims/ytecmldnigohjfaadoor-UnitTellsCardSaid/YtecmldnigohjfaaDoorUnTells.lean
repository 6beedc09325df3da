/- State and Run, and their references: the law's walk. -/
import Derived.Test.YtecmldnigohjfaaDoorUnRef
namespace Go.Proofs.YtecmldnigohjfaaDoor
open Go Go.RowKit
set_option linter.unusedVariables false
set_option linter.unusedSimpArgs false

theorem upR_ok {v : Int} {t : List Int} {L : List (List Int)} (hL : ∀ c ∈ L, OkC v c) (h : OkT v t) : OkT v (upR v t L).1 := (up_ind hL (fun _ => True) (fun _ _ _ _ _ _ => trivial) _ _ h trivial).1
theorem rT_len (v : Int) (t s : List Int) (L : List (List Int)) : (rT v t s L).length ≤ 4000 := by
  unfold rT
  by_cases h : cE v t s L = 0
  · rw [if_pos h]
    obtain ⟨hO, _, hL⟩ := cE_0.1 h
    have := (upR_ok hL hO.2.1).len (aE_v h)
    have := hO.1
    omega
  · rw [if_neg h]; simp
theorem rS_len (v : Int) (t s : List Int) (L : List (List Int)) : (rS v t s L).length ≤ s.length := by
  unfold rS
  split <;> simp
theorem RuIs.nw {v : Int} {t s : List Int} {at_ e : Int} {w : World} {en : Ending} {w' : World} (h : RuIs v t s at_ e w en w') {n m : Nat} (hn : n = t.length) (hm : m = s.length) : ∃ A k B q, en = .returned (.tuple #[asv v A n k B m q, .int .i64 at_, .int .i64 e]) ∧ Nw w.heap.size w' A n k t B m q s ∧ Below w.heap.size w w' := by
  subst hn hm
  obtain ⟨A, k, B, q, rfl, h1, h2, h3, h4, h5⟩ := h
  exact ⟨A, k, B, q, rfl, ⟨h1, h2, rfl, rfl, h4, h5⟩, h3⟩
theorem RrIs.nw {v : Int} {t s : List Int} {at_ e : Int} {w : World} {en : Ending} {w' : World} (h : RrIs v t s at_ e w en w') {n m : Nat} (hn : n = t.length) (hm : m = s.length) : ∃ A k B q, en = .returned (.tuple #[asv v A n k B m q, .int .i64 at_, .int .i64 e]) ∧ Nw 0 w' A n k t B m q s ∧ Below w.heap.size w w' := by
  obtain ⟨A, n', k, B, m', q, rfl, h1, h2⟩ := h
  have e1 : n' = n := by rw [h1.nt, hn]
  have e2 : m' = m := by rw [h1.ms, hm]
  subst e1 e2
  exact ⟨A, k, B, q, rfl, h1, h2⟩

set_option maxRecDepth 100000 in
set_option maxHeartbeats 40000000 in
theorem tells15_any (v : Int) (A : Option Addr) (t : List Int) (k : Nat) (B : Option Addr) (s : List Int) (q : Nat) (C : Option Addr) (L : List (List Int)) (kc : Nat) (D : Option Addr) (c : List Int) (kd : Nat) (w : World) (hm0 : Ia w w.heap.size A t k) (hr0 : ∀ x ∈ t, I64 x) (hn0 : Ia w w.heap.size B s q) (hk0 : k ≤ 9223372036854775807 ∧ q ≤ 9223372036854775807)
    (hm1 : Ill w w.heap.size C L kc) (hk1 : kc ≤ 9223372036854775807) (hr1 : ∀ c ∈ L, (∀ x ∈ c, I64 x) ∧ c.length ≤ 9223372036854775807) (hm2 : Ia w w.heap.size D c kd) (hr2 : ∀ x ∈ c, I64 x) (hk2 : kd ≤ 9223372036854775807) (htab : Tab w.heap.size w) :
    Calls Tryd.prog 3 #[asv v A t.length k B s.length q, .slice C L.length kc, .slice D c.length kd] w fun e w' => e = .returned (.bool true) ∧ Below w.heap.size w w' := by
  have H0 := Bs.new w (.int .i64 v) (.slice A t.length k) (.slice B s.length q)
  have hb0 := bx_on w (.cells #[.int .i64 v, .slice A t.length k, .slice B s.length q] 24)
  have hn63 : t.length ≤ 9223372036854775807 := by have := hm0.c; omega
  have hm63 : s.length ≤ 9223372036854775807 := by have := hn0.c; omega
  have hl63 : L.length ≤ 9223372036854775807 := by have := hm1.c; omega
  have hc63 : c.length ≤ 9223372036854775807 := by have := hm2.c; omega
  have DG := fun W => rGreat14_any v A t.length k B s.length q W hn63 hm63
  have DL := fun (W : World) (hb : Below w.heap.size w W) => rGreat15_any v C L kc W (hm1.on hb) hl63 (fun c hc => (hr1 c hc).2)
  obtain ⟨n, hn⟩ : ∃ n, n = t.length := ⟨_, rfl⟩
  obtain ⟨m, hm⟩ : ∃ m, m = s.length := ⟨_, rfl⟩
  obtain ⟨nl, hnl⟩ : ∃ m, m = L.length := ⟨_, rfl⟩
  obtain ⟨nc, hnc⟩ : ∃ m, m = c.length := ⟨_, rfl⟩
  have hNw := Nw.arg hm0 hn0 hn hm
  have HB := Lib.hid (And.intro H0 hb0)
  rw [← hn, ← hm] at DG HB ⊢
  rw [← hnl] at DL ⊢
  rw [← hnc] at hc63 ⊢
  by_cases hg : 200 < n ∨ 200 < m
  · rw [show decide (200 < n ∨ 200 < m) = true from decide_eq_true hg] at DG
    clear hm0 hr0 hn0 hk0 hm1 hk1 hr1 hm2 hr2 hk2 hn63 hm63 hl63 hn hm hnl hnc hNw hg DL H0 hb0
    go_enter Tryd.func3, Tryd.ntmps3
    go_wp2_with (first
      | (go_at_call 9; (with_reducible refine (DG _).mono ?_); rintro e w1 ⟨rfl, hb1⟩
         have HB1 := Lib.hid (bn HB.out.2 hb1)
         clear hb1))
    go_ret
    exact ⟨rfl, HB1.out⟩
  rw [show decide (200 < n ∨ 200 < m) = false from decide_eq_false hg] at DG
  by_cases hg2 : grt v L = true
  · rw [hg2] at DL
    clear hm0 hr0 hn0 hk0 hm1 hk1 hr1 hm2 hr2 hk2 hn63 hm63 hl63 hn hm hnl hnc hNw hg hg2 H0 hb0
    go_enter Tryd.func3, Tryd.ntmps3
    go_wp2_with (first
      | (go_at_call 9; (with_reducible refine (DG _).mono ?_); rintro e w1 ⟨rfl, hb1⟩
         have HB1 := Lib.hid (bn HB.out.2 hb1)
         obtain ⟨c0, c1, c2⟩ := (HB.out.1.on hb1).c
         clear hb1)
      | (go_at_call 10; (with_reducible refine (DL _ HB1.out).mono ?_); rintro e w2 ⟨rfl, hb2⟩
         have HB2 := Lib.hid (bn HB1.out hb2)
         clear hb2))
    go_ret
    exact ⟨rfl, HB2.out⟩
  have hg2 : grt v L = false := by simpa using hg2
  rw [hg2] at DL
  by_cases hg3 : 100 < nc
  · have g3 : (100 : Int) < (nc : Int) := by omega
    clear hm0 hr0 hn0 hk0 hm1 hk1 hr1 hm2 hr2 hk2 hn63 hm63 hl63 hn hm hnl hnc hNw hg hg2 hg3 H0 hb0
    go_enter Tryd.func3, Tryd.ntmps3
    go_wp2_with (first
      | (go_at_call 9; (with_reducible refine (DG _).mono ?_); rintro e w1 ⟨rfl, hb1⟩
         have HB1 := Lib.hid (bn HB.out.2 hb1)
         obtain ⟨c0, c1, c2⟩ := (HB.out.1.on hb1).c
         clear hb1)
      | (go_at_call 10; (with_reducible refine (DL _ HB1.out).mono ?_); rintro e w2 ⟨rfl, hb2⟩
         have HB2 := Lib.hid (bn HB1.out hb2)
         clear hb2))
    go_ret
    exact ⟨rfl, HB2.out⟩
  have g3 : ¬ (100 : Int) < (nc : Int) := by omega
  obtain ⟨q1, q2, q3⟩ := grt_no hg2
  have hn2 : n ≤ 100000 := by omega
  have hm2' : m ≤ 100000 := by omega
  have hcl : L.length ≤ 100000 := by omega
  have hcr : ∀ c ∈ L, c.length ≤ 100000 ∧ ∀ x ∈ c, I64 x := fun c hc => ⟨by have := q2 c hc; omega, (hr1 c hc).1⟩
  have CT := fun (W : World) (h : Nw 0 W A n k t B m q s) => h.twin hn2 hm2' v
  have CS := fun (W : World) (hb : Below w.heap.size w W) => state_any v A t k B s q D c kd W (hm0.on hb) (by omega) hr0 (hn0.on hb) (by omega) (hm2.on hb) (by omega) hr2
  have RS := fun (A : Option Addr) (k : Nat) (B : Option Addr) (q b : Nat) (W : World) (hb : Below w.heap.size w W) (h : Nw b W A n k t B m q s) => rState15_any v A t k B s q D c kd W h.ti (by omega) h.si (by omega) (hm2.on hb) (by omega) hr2
  have CR := fun (W : World) (hb : Below w.heap.size w W) => run15_all v A t k B s q C L kc W (hm0.on hb) (by omega) hr0 (hn0.on hb) (by omega) (hm1.on hb) hcl hcr (htab.next hb)
  have RR := fun (A : Option Addr) (k : Nat) (B : Option Addr) (q b : Nat) (W : World) (hb : Below w.heap.size w W) (h : Nw b W A n k t B m q s) => rrun_all v A t k B s q C L kc W h.ti (by omega) h.si (by omega) (hm1.on hb) hcl hcr
  have hL1 := rT_len v t s L
  have hL2 := rS_len v t s L
  rw [← hn, ← hm] at CS RS CR RR
  rw [← hnc] at CS RS
  rw [← hnl] at CR RR
  generalize rT v t s L = rt at CR RR hL1
  generalize rS v t s L = rs at CR RR hL2
  generalize rV v t s L = rv at CR RR
  generalize rAt v t s L = ra at CR RR
  generalize cE v t s L = re at CR RR
  generalize sS v t s c = xs at CS RS
  generalize sX v t s c = xx at CS RS
  generalize sE v t s c = xe at CS RS
  obtain ⟨n1, hn1⟩ : ∃ z, z = rt.length := ⟨_, rfl⟩
  obtain ⟨m1, hm1'⟩ : ∃ z, z = rs.length := ⟨_, rfl⟩
  have en1 : (xs == xs) = true := by simp
  have en2 : (xx == xx) = true := by simp
  have en3 : (xe == xe) = true := by simp
  have en4 : (ra == ra) = true := by simp
  have en5 : (re == re) = true := by simp
  have HN := Lib.hid (And.intro hn1 (And.intro hm1' (And.intro (show n1 ≤ 100000 by omega) (And.intro (show m1 ≤ 100000 by omega) (And.intro hn2 hm2')))))
  have HW := Lib.hid hNw
  clear hm0 hr0 hn0 hk0 hm1 hk1 hr1 hm2 hr2 hk2 hn63 hm63 hl63 hn hm hnl hnc hNw hg hg2 hg3 H0 hb0 q1 q2 q3 hn2 hm2' hcl hcr hL1 hL2 hn1 hm1' htab
  go_enter Tryd.func3, Tryd.ntmps3
  go_wp2_with (first
    | (go_at_call 9; (with_reducible refine (DG _).mono ?_); rintro e w1 ⟨rfl, hb1⟩
       have HB1 := Lib.hid (And.intro (HB.out.1.on hb1) (bn HB.out.2 hb1))
       obtain ⟨c0, c1, c2⟩ := HB1.out.1.c
       clear hb1)
    | (go_at_call 10; (with_reducible refine (DL _ HB1.out.2).mono ?_); rintro e w2 ⟨rfl, hb2⟩
       have HB2 := Lib.hid (And.intro (HB1.out.1.on hb2) (bn HB1.out.2 hb2))
       obtain ⟨c20, c21, c22⟩ := HB2.out.1.c
       clear hb2)
    | (go_at_call 11; (with_reducible refine (CT _ (HW.out.on HB2.out.2)).mono ?_); rintro e w3 ⟨A3, k3, B3, q3, rfl, hN3, hb3⟩
       have hz := bn hb3 (bx_on w3 (.cells #[.int .i64 v, .slice A3 n k3, .slice B3 m q3] 24))
       have HB3 := Lib.hid (And.intro (HB2.out.1.on hz) (And.intro (bn HB2.out.2 hz) (And.intro (hN3.on (bx_on w3 (.cells #[.int .i64 v, .slice A3 n k3, .slice B3 m q3] 24))) (Bs.new w3 (.int .i64 v) (.slice A3 n k3) (.slice B3 m q3)))))
       obtain ⟨c30, c31, c32⟩ := HB3.out.1.c
       clear hN3 hb3 hz)
    | (go_at_call 12; (with_reducible refine (CS _ HB3.out.2.1).mono ?_); rintro e w4 ⟨rfl, hb4⟩
       have HB4 := Lib.hid (And.intro (HB3.out.1.on hb4) (And.intro (bn HB3.out.2.1 hb4) (And.intro (HB3.out.2.2.1.on hb4) (HB3.out.2.2.2.on hb4))))
       obtain ⟨c40, c41, c42⟩ := HB4.out.2.2.2.c
       clear hb4)
    | (go_at_call 13; (with_reducible refine (RS _ _ _ _ _ _ HB4.out.2.1 HB4.out.2.2.1).mono ?_); rintro e w5 ⟨rfl, hb5⟩
       have HB5 := Lib.hid (And.intro (HB4.out.1.on hb5) (And.intro (bn HB4.out.2.1 hb5) (And.intro (HB4.out.2.2.1.on hb5) (HB4.out.2.2.2.on hb5))))
       obtain ⟨c50, c51, c52⟩ := HB5.out.1.c
       clear hb5)
    | (go_at_call 14; (with_reducible refine (CR _ HB5.out.2.1).mono ?_); rintro e w6 hq6
       obtain ⟨A6, k6, B6, q6, rfl, hN6, hb6⟩ := hq6.nw HN.out.1 HN.out.2.1
       have hz := bn hb6 (bx_on w6 (.cells #[.int .i64 rv, .slice A6 n1 k6, .slice B6 m1 q6] 24))
       have HB6 := Lib.hid (And.intro (HB5.out.1.on hz) (And.intro (bn HB5.out.2.1 hz) (And.intro (HB5.out.2.2.1.on hz) (And.intro (HB5.out.2.2.2.on hz) (And.intro (hN6.on (bx_on w6 (.cells #[.int .i64 rv, .slice A6 n1 k6, .slice B6 m1 q6] 24))) (Bs.new w6 (.int .i64 rv) (.slice A6 n1 k6) (.slice B6 m1 q6)))))))
       obtain ⟨c60, c61, c62⟩ := HB6.out.2.2.2.1.c
       clear hq6 hN6 hb6 hz)
    | (go_at_call 15; (with_reducible refine (RR _ _ _ _ _ _ HB6.out.2.1 HB6.out.2.2.1).mono ?_); rintro e w7 hq7
       obtain ⟨A7, k7, B7, q7, rfl, hN7, hb7⟩ := hq7.nw HN.out.1 HN.out.2.1
       have hz := bn hb7 (bx_on w7 (.cells #[.int .i64 rv, .slice A7 n1 k7, .slice B7 m1 q7] 24))
       have HB7 := Lib.hid (And.intro (HB6.out.1.on hz) (And.intro (bn HB6.out.2.1 hz) (And.intro (HB6.out.2.2.1.on hz) (And.intro (HB6.out.2.2.2.1.on hz) (And.intro (HB6.out.2.2.2.2.1.on hz) (And.intro (HB6.out.2.2.2.2.2.on hz) (And.intro (hN7.on (bx_on w7 (.cells #[.int .i64 rv, .slice A7 n1 k7, .slice B7 m1 q7] 24))) (Bs.new w7 (.int .i64 rv) (.slice A7 n1 k7) (.slice B7 m1 q7)))))))))
       obtain ⟨c70, c71, c72⟩ := HB7.out.2.2.2.2.2.1.c
       obtain ⟨d70, d71, d72⟩ := HB7.out.2.2.2.2.2.2.2.c
       clear hq7 hN7 hb7 hz)
    | (go_at_call 16; (with_reducible refine (Nw.same (v := rv) HB7.out.2.2.2.2.1 HN.out.2.2.1 HN.out.2.2.2.1 HB7.out.2.2.2.2.2.2.1).mono ?_); rintro e w8 ⟨rfl, hb8⟩
       have HB8 := Lib.hid (And.intro (bn HB7.out.2.1 hb8) (HB7.out.2.2.1.on hb8))
       obtain ⟨c80, c81, c82⟩ := (HB7.out.1.on hb8).c
       obtain ⟨d80, d81, d82⟩ := (HB7.out.2.2.2.1.on hb8).c
       have HW8 := Lib.hid (HW.out.on HB8.out.1)
       clear hb8)
    | (go_at_call 16; (with_reducible refine (Nw.same (v := v) HW8.out HN.out.2.2.2.2.1 HN.out.2.2.2.2.2 HB8.out.2).mono ?_); rintro e w9 ⟨rfl, hb9⟩
       have HB9 := Lib.hid (bn HB8.out.1 hb9)
       clear hb9))
  go_ret
  exact ⟨rfl, HB9.out⟩

end Go.Proofs.YtecmldnigohjfaaDoor
