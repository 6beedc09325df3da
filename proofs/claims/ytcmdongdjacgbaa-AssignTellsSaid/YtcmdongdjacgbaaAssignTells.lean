/- For an assignment of at most 200 literals, and 200 levels, and any numbers: all functions of the layer return what the reference returns, and leave the assignment as it is. No conditions. -/
import Derived.Test.YtcmdongdjacgbaaAsTell7
namespace Go.Proofs.Ytcmdongdjacgbaa.assignTells
open Go.ChangeShapes Go.WideShapes Go.ChangeAt Go.RowKit
set_option linter.unusedVariables false
set_option linter.unusedSimpArgs false


theorem own : ownKnob Try.prog.godebug = none := by kernel_rfl

set_option maxRecDepth 100000 in
set_option maxHeartbeats 4000000 in
theorem walk (a0 : Int) (A0 : Option Addr) (t0 : List Int) (k0 : Nat) (B0 : Option Addr) (s0 : List Int) (q0 : Nat) (a1 : Int) (a2 : Int) (a3 : Int) (w : World) (w0 : (Lit.int .i64 a0).wf = true) (hm0 : Ia w w.heap.size A0 t0 k0) (hr0 : ∀ x ∈ t0, I64 x) (hK0 : k0 ≤ maxLen) (hn0 : Ia w w.heap.size B0 s0 q0) (hs0 : ∀ x ∈ s0, I64 x) (hQ0 : q0 ≤ maxLen) (w1 : (Lit.int .i64 a1).wf = true) (w2 : (Lit.int .i64 a2).wf = true) (w3 : (Lit.int .i64 a3).wf = true) :
    Calls Try.prog 3 #[.agg #[.int .i64 a0, .slice A0 t0.length k0, .slice B0 s0.length q0], .int .i64 a1, .int .i64 a2, .int .i64 a3] w fun e w' => e = .returned (.bool true) ∧ Below w.heap.size w w' := by
  have hv0 := i64_of w0
  have hx2 := i64_of w2
  clear w0 w1 w2 w3 hv0
  have hk0 : k0 ≤ 9223372036854775807 ∧ q0 ≤ 9223372036854775807 := ⟨hK0, hQ0⟩
  obtain ⟨n, hn⟩ : ∃ n, n = t0.length := ⟨_, rfl⟩
  obtain ⟨m, hm⟩ : ∃ m, m = s0.length := ⟨_, rfl⟩
  have hn63 : n ≤ 9223372036854775807 := by have := hm0.c; omega
  have hm63 : m ≤ 9223372036854775807 := by have := hn0.c; omega
  have hNw := Nw.arg hm0 hn0 hn hm
  have hL1 := pT_len a0 t0 s0 a2
  have hL2 := pS_len a0 t0 s0 a2 true
  have hL3 := pS_len a0 t0 s0 a2 false
  have hL4 := uT_len a0 t0 s0 a3
  have hL5 := uS_len a0 t0 s0 a3
  rw [← hn] at hL1 hL4
  rw [← hm] at hL2 hL3 hL5
  rw [← hn, ← hm]
  have DG := fun W => rGreat14_any a0 A0 n k0 B0 m q0 W hn63 hm63
  by_cases hg : 200 < n ∨ 200 < m
  · rw [show decide (200 < n ∨ 200 < m) = true from decide_eq_true hg] at DG
    clear hm0 hr0 hK0 hn0 hs0 hQ0 hn hm hk0 hNw hg hn63 hm63 hL1 hL2 hL3 hL4 hL5 hx2
    go_enter Try.func3, Try.ntmps3
    go_wp2_with (first
      | (go_at_call 4; (with_reducible refine (DG _).mono ?_); rintro e w1 ⟨rfl, hb1⟩
         have HB1 := Lib.hid (bn (bx_on w (.cells #[.int .i64 a0, .slice A0 n k0, .slice B0 m q0] 24)) hb1)
         clear hb1))
    go_ret
    exact ⟨rfl, HB1.out⟩
  · rw [show decide (200 < n ∨ 200 < m) = false from decide_eq_false hg] at DG
    have hn2 : n ≤ 100000 := by omega
    have hm2 : m ≤ 100000 := by omega
    have CT := fun (b : Nat) (W : World) (h : Nw b W A0 n k0 t0 B0 m q0 s0) => h.twin hn2 hm2 a0
    have CN := fun (W : World) => new14_any a1 W
    have CM := fun (W : World) => new14r_any a1 W
    have CD := fun (b : Nat) (W : World) (h : Nw b W A0 n k0 t0 B0 m q0 s0) => h.decide' hn2 hm2 hr0 a0 a2 hx2
    have CI := fun (b : Nat) (W : World) (h : Nw b W A0 n k0 t0 B0 m q0 s0) => h.imply' hn2 hm2 hr0 a0 a2 hx2
    have CV := fun (b : Nat) (W : World) (h : Nw b W A0 n k0 t0 B0 m q0 s0) => h.value' hn2 hm2 hr0 a0 a2 hx2
    have CL := fun (b : Nat) (W : World) (h : Nw b W A0 n k0 t0 B0 m q0 s0) => h.level' hn2 hm2 hr0 a0 a2 hx2
    have CU := fun (b : Nat) (W : World) (h : Nw b W A0 n k0 t0 B0 m q0 s0) => h.undo' hn2 hm2 hr0 a0 a3
    have CC := fun (b : Nat) (W : World) (h : Nw b W A0 n k0 t0 B0 m q0 s0) => h.check' hn2 hm2 hr0 a0
    have RP := fun (d : Bool) (b : Nat) (W : World) (A : Option Addr) (k : Nat) (B : Option Addr) (q : Nat) (h : Nw b W A n k t0 B m q s0) => h.rput hn2 hm2 a0 a2 d
    have RV := fun (b : Nat) (W : World) (A : Option Addr) (k : Nat) (B : Option Addr) (q : Nat) (h : Nw b W A n k t0 B m q s0) => h.rvalue hn2 hm2 a0 a2
    have RL := fun (b : Nat) (W : World) (A : Option Addr) (k : Nat) (B : Option Addr) (q : Nat) (h : Nw b W A n k t0 B m q s0) => h.rlevel hn2 hm2 a0 a2
    have RU := fun (b : Nat) (W : World) (A : Option Addr) (k : Nat) (B : Option Addr) (q : Nat) (h : Nw b W A n k t0 B m q s0) => h.rundo hn2 hm2 a0 a3
    have RCk := fun (b : Nat) (W : World) (A : Option Addr) (k : Nat) (B : Option Addr) (q : Nat) (h : Nw b W A n k t0 B m q s0) => h.rcheck hn2 hm2 a0
    have RPt := RP true
    have RPf := RP false
    clear RP
    generalize pT a0 t0 s0 a2 = pt at CD CI RPt RPf hL1
    generalize pS a0 t0 s0 a2 true = ps1 at CD RPt hL2
    generalize pS a0 t0 s0 a2 false = ps0 at CI RPf hL3
    generalize pV a0 t0 s0 a2 = pv at CD CI RPt RPf
    generalize pE a0 t0 s0 a2 = pe at CD CI RPt RPf
    generalize vV a0 t0 s0 a2 = vv at CV RV
    generalize wE a0 t0 s0 a2 = we at CV RV
    generalize lV a0 t0 s0 a2 = lv at CL RL
    generalize lE a0 t0 s0 a2 = le at CL RL
    generalize uT a0 t0 s0 a3 = ut at CU RU hL4
    generalize uS a0 t0 s0 a3 = us at CU RU hL5
    generalize uV a0 t0 s0 a3 = uv at CU RU
    generalize uE a0 t0 s0 a3 = ue at CU RU
    generalize nV a1 = nv at CN CM
    generalize nE a1 = ne at CN CM
    generalize aE a0 t0 s0 = ae at CC RCk
    obtain ⟨np, hnp⟩ : ∃ z, z = pt.length := ⟨_, rfl⟩
    obtain ⟨m1, hm1⟩ : ∃ z, z = ps1.length := ⟨_, rfl⟩
    obtain ⟨m0, hm0'⟩ : ∃ z, z = ps0.length := ⟨_, rfl⟩
    obtain ⟨nu, hnu⟩ : ∃ z, z = ut.length := ⟨_, rfl⟩
    obtain ⟨mu, hmu⟩ : ∃ z, z = us.length := ⟨_, rfl⟩
    rw [← hnp] at hL1
    rw [← hm1] at hL2
    rw [← hm0'] at hL3
    rw [← hnu] at hL4
    rw [← hmu] at hL5
    have HN := Lib.hid (And.intro hnp (And.intro hm1 (And.intro hm0' (And.intro hnu hmu))))
    have HZ := Lib.hid (And.intro (show np ≤ 100000 by omega) (And.intro (show m1 ≤ 100000 by omega) (And.intro (show m0 ≤ 100000 by omega) (And.intro (show nu ≤ 100000 by omega) (show mu ≤ 100000 by omega)))))
    have HNw := Lib.hid hNw
    have HZ0 := Lib.hid (And.intro hn2 hm2)
    have en1 : (ne != ne) = false := by simp
    have en2 : (pe != pe) = false := by simp
    have en3 : (vv == vv) = true := by simp
    have en4 : (we == we) = true := by simp
    have en5 : (lv == lv) = true := by simp
    have en6 : (le == le) = true := by simp
    have en7 : (ue == ue) = true := by simp
    have en8 : (ae == ae) = true := by simp
    clear hm0 hr0 hK0 hn0 hs0 hQ0 hn hm hk0 hNw hg hn63 hm63 hL1 hL2 hL3 hL4 hL5 hx2 hnp hm1 hm0' hnu hmu hn2 hm2
    go_enter Try.func3, Try.ntmps3
    go_wp2_with (first
      | (go_at_call 4; (with_reducible refine (DG _).mono ?_); rintro e w1 ⟨rfl, hb1⟩
         have hz := bn (bx_on w (.cells #[.int .i64 a0, .slice A0 n k0, .slice B0 m q0] 24)) hb1
         have Hw1 := Lib.hid (And.intro hz (And.intro (HNw.out.on hz) ((Bs.new w (.int .i64 a0) (.slice A0 n k0) (.slice B0 m q0)).on hb1)))
         obtain ⟨cb40, cb41, cb42⟩ := Hw1.out.2.2.c
         clear hb1 hz)
      | (go_at_call 5; (with_reducible refine (CT _ _ Hw1.out.2.1).mono ?_); rintro e w2 ⟨A2, k2, B2, q2, rfl, hN2, hbw2⟩
         have hz := bn hbw2 (bx_on w2 (.cells #[.int .i64 a0, .slice A2 n k2, .slice B2 m q2] 24))
         have Hw2 := Lib.hid (And.intro (bn Hw1.out.1 hz) (And.intro (Hw1.out.2.1.on hz) (And.intro (Hw1.out.2.2.on hz) (And.intro (hN2.on (bx_on w2 (.cells #[.int .i64 a0, .slice A2 n k2, .slice B2 m q2] 24))) (Bs.new w2 (.int .i64 a0) (.slice A2 n k2) (.slice B2 m q2))))))
         clear hbw2 hz hN2)
      | (go_at_call 6; (with_reducible refine (CN _).mono ?_); rintro e w3 hq3
         obtain ⟨A3, k3, B3, q3, rfl, hN3, hbw3⟩ := AsIs.nw (n := 0) (m := 0) hq3 rfl rfl
         have hz := bn hbw3 (bx_on w3 (.cells #[.int .i64 nv, .slice A3 0 k3, .slice B3 0 q3] 24))
         have Hw3 := Lib.hid (And.intro (bn Hw2.out.1 hz) (And.intro (Hw2.out.2.1.on hz) (And.intro (Hw2.out.2.2.1.on hz) (And.intro (Hw2.out.2.2.2.1.on hz) (And.intro (Hw2.out.2.2.2.2.on hz) (And.intro (hN3.on (bx_on w3 (.cells #[.int .i64 nv, .slice A3 0 k3, .slice B3 0 q3] 24))) (Bs.new w3 (.int .i64 nv) (.slice A3 0 k3) (.slice B3 0 q3))))))))
         clear hbw3 hz hN3)
      | (go_at_call 7; (with_reducible refine (CM _).mono ?_); rintro e w4 hq4
         obtain ⟨A4, k4, B4, q4, rfl, hN4, hbw4⟩ := AsIs.nw (n := 0) (m := 0) hq4 rfl rfl
         have hz := bn hbw4 (bx_on w4 (.cells #[.int .i64 nv, .slice A4 0 k4, .slice B4 0 q4] 24))
         have Hw4 := Lib.hid (And.intro (bn Hw3.out.1 hz) (And.intro (Hw3.out.2.1.on hz) (And.intro (Hw3.out.2.2.1.on hz) (And.intro (Hw3.out.2.2.2.1.on hz) (And.intro (Hw3.out.2.2.2.2.1.on hz) (And.intro (Hw3.out.2.2.2.2.2.1.on hz) (And.intro (Hw3.out.2.2.2.2.2.2.on hz) (And.intro (hN4.on (bx_on w4 (.cells #[.int .i64 nv, .slice A4 0 k4, .slice B4 0 q4] 24))) (Bs.new w4 (.int .i64 nv) (.slice A4 0 k4) (.slice B4 0 q4))))))))))
         obtain ⟨cb40, cb41, cb42⟩ := Hw4.out.2.2.1.c
         clear hbw4 hz hN4)
      | (go_at_call 8; (with_reducible refine (CD _ _ Hw4.out.2.1).mono ?_); rintro e w5 hq5
         obtain ⟨A5, k5, B5, q5, rfl, hN5, hbw5⟩ := AsIs.nw (n := np) (m := m1) hq5 HN.out.1 HN.out.2.1
         have hz := bn hbw5 (bx_on w5 (.cells #[.int .i64 pv, .slice A5 np k5, .slice B5 m1 q5] 24))
         have Hw5 := Lib.hid (And.intro (bn Hw4.out.1 hz) (And.intro (Hw4.out.2.1.on hz) (And.intro (Hw4.out.2.2.1.on hz) (And.intro (Hw4.out.2.2.2.1.on hz) (And.intro (Hw4.out.2.2.2.2.1.on hz) (And.intro (Hw4.out.2.2.2.2.2.1.on hz) (And.intro (Hw4.out.2.2.2.2.2.2.1.on hz) (And.intro (Hw4.out.2.2.2.2.2.2.2.1.on hz) (And.intro (Hw4.out.2.2.2.2.2.2.2.2.on hz) (And.intro (hN5.on (bx_on w5 (.cells #[.int .i64 pv, .slice A5 np k5, .slice B5 m1 q5] 24))) (Bs.new w5 (.int .i64 pv) (.slice A5 np k5) (.slice B5 m1 q5))))))))))))
         obtain ⟨cb90, cb91, cb92⟩ := Hw5.out.2.2.2.2.1.c
         clear hbw5 hz hN5)
      | (go_at_call 9; (with_reducible refine (RPt _ _ _ _ _ _ Hw5.out.2.2.2.1).mono ?_); rintro e w6 hq6
         obtain ⟨A6, k6, B6, q6, rfl, hN6, hbw6⟩ := AsIs.nw (n := np) (m := m1) hq6 HN.out.1 HN.out.2.1
         have hz := bn hbw6 (bx_on w6 (.cells #[.int .i64 pv, .slice A6 np k6, .slice B6 m1 q6] 24))
         have Hw6 := Lib.hid (And.intro (bn Hw5.out.1 hz) (And.intro (Hw5.out.2.1.on hz) (And.intro (Hw5.out.2.2.1.on hz) (And.intro (Hw5.out.2.2.2.1.on hz) (And.intro (Hw5.out.2.2.2.2.1.on hz) (And.intro (Hw5.out.2.2.2.2.2.1.on hz) (And.intro (Hw5.out.2.2.2.2.2.2.1.on hz) (And.intro (Hw5.out.2.2.2.2.2.2.2.1.on hz) (And.intro (Hw5.out.2.2.2.2.2.2.2.2.1.on hz) (And.intro (Hw5.out.2.2.2.2.2.2.2.2.2.1.on hz) (And.intro (Hw5.out.2.2.2.2.2.2.2.2.2.2.on hz) (And.intro (hN6.on (bx_on w6 (.cells #[.int .i64 pv, .slice A6 np k6, .slice B6 m1 q6] 24))) (Bs.new w6 (.int .i64 pv) (.slice A6 np k6) (.slice B6 m1 q6))))))))))))))
         obtain ⟨cb40, cb41, cb42⟩ := Hw6.out.2.2.1.c
         clear hbw6 hz hN6)
      | (go_at_call 10; (with_reducible refine (CI _ _ Hw6.out.2.1).mono ?_); rintro e w7 hq7
         obtain ⟨A7, k7, B7, q7, rfl, hN7, hbw7⟩ := AsIs.nw (n := np) (m := m0) hq7 HN.out.1 HN.out.2.2.1
         have hz := bn hbw7 (bx_on w7 (.cells #[.int .i64 pv, .slice A7 np k7, .slice B7 m0 q7] 24))
         have Hw7 := Lib.hid (And.intro (bn Hw6.out.1 hz) (And.intro (Hw6.out.2.1.on hz) (And.intro (Hw6.out.2.2.1.on hz) (And.intro (Hw6.out.2.2.2.1.on hz) (And.intro (Hw6.out.2.2.2.2.1.on hz) (And.intro (Hw6.out.2.2.2.2.2.1.on hz) (And.intro (Hw6.out.2.2.2.2.2.2.1.on hz) (And.intro (Hw6.out.2.2.2.2.2.2.2.1.on hz) (And.intro (Hw6.out.2.2.2.2.2.2.2.2.1.on hz) (And.intro (Hw6.out.2.2.2.2.2.2.2.2.2.1.on hz) (And.intro (Hw6.out.2.2.2.2.2.2.2.2.2.2.1.on hz) (And.intro (Hw6.out.2.2.2.2.2.2.2.2.2.2.2.1.on hz) (And.intro (Hw6.out.2.2.2.2.2.2.2.2.2.2.2.2.on hz) (And.intro (hN7.on (bx_on w7 (.cells #[.int .i64 pv, .slice A7 np k7, .slice B7 m0 q7] 24))) (Bs.new w7 (.int .i64 pv) (.slice A7 np k7) (.slice B7 m0 q7))))))))))))))))
         obtain ⟨cb90, cb91, cb92⟩ := Hw7.out.2.2.2.2.1.c
         clear hbw7 hz hN7)
      | (go_at_call 9; (with_reducible refine (RPf _ _ _ _ _ _ Hw7.out.2.2.2.1).mono ?_); rintro e w8 hq8
         obtain ⟨A8, k8, B8, q8, rfl, hN8, hbw8⟩ := AsIs.nw (n := np) (m := m0) hq8 HN.out.1 HN.out.2.2.1
         have hz := bn hbw8 (bx_on w8 (.cells #[.int .i64 pv, .slice A8 np k8, .slice B8 m0 q8] 24))
         have Hw8 := Lib.hid (And.intro (bn Hw7.out.1 hz) (And.intro (Hw7.out.2.1.on hz) (And.intro (Hw7.out.2.2.1.on hz) (And.intro (Hw7.out.2.2.2.1.on hz) (And.intro (Hw7.out.2.2.2.2.1.on hz) (And.intro (Hw7.out.2.2.2.2.2.1.on hz) (And.intro (Hw7.out.2.2.2.2.2.2.1.on hz) (And.intro (Hw7.out.2.2.2.2.2.2.2.1.on hz) (And.intro (Hw7.out.2.2.2.2.2.2.2.2.1.on hz) (And.intro (Hw7.out.2.2.2.2.2.2.2.2.2.1.on hz) (And.intro (Hw7.out.2.2.2.2.2.2.2.2.2.2.1.on hz) (And.intro (Hw7.out.2.2.2.2.2.2.2.2.2.2.2.1.on hz) (And.intro (Hw7.out.2.2.2.2.2.2.2.2.2.2.2.2.1.on hz) (And.intro (Hw7.out.2.2.2.2.2.2.2.2.2.2.2.2.2.1.on hz) (And.intro (Hw7.out.2.2.2.2.2.2.2.2.2.2.2.2.2.2.on hz) (And.intro (hN8.on (bx_on w8 (.cells #[.int .i64 pv, .slice A8 np k8, .slice B8 m0 q8] 24))) (Bs.new w8 (.int .i64 pv) (.slice A8 np k8) (.slice B8 m0 q8))))))))))))))))))
         obtain ⟨cb100, cb101, cb102⟩ := Hw8.out.2.2.2.2.2.2.1.c
         obtain ⟨cb120, cb121, cb122⟩ := Hw8.out.2.2.2.2.2.2.2.2.1.c
         clear hbw8 hz hN8)
      | (go_at_call 11; (with_reducible refine (Nw.same (v := nv) Hw8.out.2.2.2.2.2.1 (Nat.zero_le _) (Nat.zero_le _) Hw8.out.2.2.2.2.2.2.2.1).mono ?_); rintro e w9 ⟨rfl, hbw9⟩
         have Hw9 := Lib.hid (And.intro (bn Hw8.out.1 hbw9) (And.intro (Hw8.out.2.1.on hbw9) (And.intro (Hw8.out.2.2.1.on hbw9) (And.intro (Hw8.out.2.2.2.1.on hbw9) (And.intro (Hw8.out.2.2.2.2.1.on hbw9) (And.intro (Hw8.out.2.2.2.2.2.1.on hbw9) (And.intro (Hw8.out.2.2.2.2.2.2.1.on hbw9) (And.intro (Hw8.out.2.2.2.2.2.2.2.1.on hbw9) (And.intro (Hw8.out.2.2.2.2.2.2.2.2.1.on hbw9) (And.intro (Hw8.out.2.2.2.2.2.2.2.2.2.1.on hbw9) (And.intro (Hw8.out.2.2.2.2.2.2.2.2.2.2.1.on hbw9) (And.intro (Hw8.out.2.2.2.2.2.2.2.2.2.2.2.1.on hbw9) (And.intro (Hw8.out.2.2.2.2.2.2.2.2.2.2.2.2.1.on hbw9) (And.intro (Hw8.out.2.2.2.2.2.2.2.2.2.2.2.2.2.1.on hbw9) (And.intro (Hw8.out.2.2.2.2.2.2.2.2.2.2.2.2.2.2.1.on hbw9) (And.intro (Hw8.out.2.2.2.2.2.2.2.2.2.2.2.2.2.2.2.1.on hbw9) (Hw8.out.2.2.2.2.2.2.2.2.2.2.2.2.2.2.2.2.on hbw9)))))))))))))))))
         obtain ⟨cb140, cb141, cb142⟩ := Hw9.out.2.2.2.2.2.2.2.2.2.2.1.c
         obtain ⟨cb160, cb161, cb162⟩ := Hw9.out.2.2.2.2.2.2.2.2.2.2.2.2.1.c
         clear hbw9)
      | (go_at_call 11; (with_reducible refine (Nw.same (v := pv) Hw9.out.2.2.2.2.2.2.2.2.2.1 HZ.out.1 HZ.out.2.1 Hw9.out.2.2.2.2.2.2.2.2.2.2.2.1).mono ?_); rintro e w10 ⟨rfl, hbw10⟩
         have Hw10 := Lib.hid (And.intro (bn Hw9.out.1 hbw10) (And.intro (Hw9.out.2.1.on hbw10) (And.intro (Hw9.out.2.2.1.on hbw10) (And.intro (Hw9.out.2.2.2.1.on hbw10) (And.intro (Hw9.out.2.2.2.2.1.on hbw10) (And.intro (Hw9.out.2.2.2.2.2.1.on hbw10) (And.intro (Hw9.out.2.2.2.2.2.2.1.on hbw10) (And.intro (Hw9.out.2.2.2.2.2.2.2.1.on hbw10) (And.intro (Hw9.out.2.2.2.2.2.2.2.2.1.on hbw10) (And.intro (Hw9.out.2.2.2.2.2.2.2.2.2.1.on hbw10) (And.intro (Hw9.out.2.2.2.2.2.2.2.2.2.2.1.on hbw10) (And.intro (Hw9.out.2.2.2.2.2.2.2.2.2.2.2.1.on hbw10) (And.intro (Hw9.out.2.2.2.2.2.2.2.2.2.2.2.2.1.on hbw10) (And.intro (Hw9.out.2.2.2.2.2.2.2.2.2.2.2.2.2.1.on hbw10) (And.intro (Hw9.out.2.2.2.2.2.2.2.2.2.2.2.2.2.2.1.on hbw10) (And.intro (Hw9.out.2.2.2.2.2.2.2.2.2.2.2.2.2.2.2.1.on hbw10) (Hw9.out.2.2.2.2.2.2.2.2.2.2.2.2.2.2.2.2.on hbw10)))))))))))))))))
         obtain ⟨cb180, cb181, cb182⟩ := Hw10.out.2.2.2.2.2.2.2.2.2.2.2.2.2.2.1.c
         obtain ⟨cb200, cb201, cb202⟩ := Hw10.out.2.2.2.2.2.2.2.2.2.2.2.2.2.2.2.2.c
         clear hbw10)
      | (go_at_call 11; (with_reducible refine (Nw.same (v := pv) Hw10.out.2.2.2.2.2.2.2.2.2.2.2.2.2.1 HZ.out.1 HZ.out.2.2.1 Hw10.out.2.2.2.2.2.2.2.2.2.2.2.2.2.2.2.1).mono ?_); rintro e w11 ⟨rfl, hbw11⟩
         have Hw11 := Lib.hid (And.intro (bn Hw10.out.1 hbw11) (And.intro (Hw10.out.2.1.on hbw11) (And.intro (Hw10.out.2.2.1.on hbw11) (And.intro (Hw10.out.2.2.2.1.on hbw11) (And.intro (Hw10.out.2.2.2.2.1.on hbw11) (And.intro (Hw10.out.2.2.2.2.2.1.on hbw11) (And.intro (Hw10.out.2.2.2.2.2.2.1.on hbw11) (And.intro (Hw10.out.2.2.2.2.2.2.2.1.on hbw11) (And.intro (Hw10.out.2.2.2.2.2.2.2.2.1.on hbw11) (And.intro (Hw10.out.2.2.2.2.2.2.2.2.2.1.on hbw11) (And.intro (Hw10.out.2.2.2.2.2.2.2.2.2.2.1.on hbw11) (And.intro (Hw10.out.2.2.2.2.2.2.2.2.2.2.2.1.on hbw11) (And.intro (Hw10.out.2.2.2.2.2.2.2.2.2.2.2.2.1.on hbw11) (And.intro (Hw10.out.2.2.2.2.2.2.2.2.2.2.2.2.2.1.on hbw11) (And.intro (Hw10.out.2.2.2.2.2.2.2.2.2.2.2.2.2.2.1.on hbw11) (And.intro (Hw10.out.2.2.2.2.2.2.2.2.2.2.2.2.2.2.2.1.on hbw11) (Hw10.out.2.2.2.2.2.2.2.2.2.2.2.2.2.2.2.2.on hbw11)))))))))))))))))
         obtain ⟨cb40, cb41, cb42⟩ := Hw11.out.2.2.1.c
         have HK := Lib.hid (And.intro Hw11.out.1 (And.intro Hw11.out.2.1 (And.intro Hw11.out.2.2.1 (And.intro Hw11.out.2.2.2.1 Hw11.out.2.2.2.2.1))))
         clear hbw11)
      | (go_at_call 12; (with_reducible refine (CV _ _ HK.out.2.1).mono ?_); rintro e w12 ⟨rfl, hbw12⟩
         have Hw12 := Lib.hid (And.intro (bn HK.out.1 hbw12) (And.intro (HK.out.2.1.on hbw12) (And.intro (HK.out.2.2.1.on hbw12) (And.intro (HK.out.2.2.2.1.on hbw12) (HK.out.2.2.2.2.on hbw12)))))
         obtain ⟨cb90, cb91, cb92⟩ := Hw12.out.2.2.2.2.c
         clear hbw12)
      | (go_at_call 13; (with_reducible refine (RV _ _ _ _ _ _ Hw12.out.2.2.2.1).mono ?_); rintro e w13 ⟨rfl, hbw13⟩
         have Hw13 := Lib.hid (And.intro (bn Hw12.out.1 hbw13) (And.intro (Hw12.out.2.1.on hbw13) (And.intro (Hw12.out.2.2.1.on hbw13) (And.intro (Hw12.out.2.2.2.1.on hbw13) (Hw12.out.2.2.2.2.on hbw13)))))
         obtain ⟨cb40, cb41, cb42⟩ := Hw13.out.2.2.1.c
         clear hbw13)
      | (go_at_call 14; (with_reducible refine (CL _ _ Hw13.out.2.1).mono ?_); rintro e w14 ⟨rfl, hbw14⟩
         have Hw14 := Lib.hid (And.intro (bn Hw13.out.1 hbw14) (And.intro (Hw13.out.2.1.on hbw14) (And.intro (Hw13.out.2.2.1.on hbw14) (And.intro (Hw13.out.2.2.2.1.on hbw14) (Hw13.out.2.2.2.2.on hbw14)))))
         obtain ⟨cb90, cb91, cb92⟩ := Hw14.out.2.2.2.2.c
         clear hbw14)
      | (go_at_call 15; (with_reducible refine (RL _ _ _ _ _ _ Hw14.out.2.2.2.1).mono ?_); rintro e w15 ⟨rfl, hbw15⟩
         have Hw15 := Lib.hid (And.intro (bn Hw14.out.1 hbw15) (And.intro (Hw14.out.2.1.on hbw15) (And.intro (Hw14.out.2.2.1.on hbw15) (And.intro (Hw14.out.2.2.2.1.on hbw15) (Hw14.out.2.2.2.2.on hbw15)))))
         obtain ⟨cb40, cb41, cb42⟩ := Hw15.out.2.2.1.c
         clear hbw15)
      | (go_at_call 16; (with_reducible refine (CU _ _ Hw15.out.2.1).mono ?_); rintro e w16 hq16
         obtain ⟨A16, k16, B16, q16, rfl, hN16, hbw16⟩ := AsIs.nw (n := nu) (m := mu) hq16 HN.out.2.2.2.1 HN.out.2.2.2.2
         have hz := bn hbw16 (bx_on w16 (.cells #[.int .i64 uv, .slice A16 nu k16, .slice B16 mu q16] 24))
         have Hw16 := Lib.hid (And.intro (bn Hw15.out.1 hz) (And.intro (Hw15.out.2.1.on hz) (And.intro (Hw15.out.2.2.1.on hz) (And.intro (Hw15.out.2.2.2.1.on hz) (And.intro (Hw15.out.2.2.2.2.on hz) (And.intro (hN16.on (bx_on w16 (.cells #[.int .i64 uv, .slice A16 nu k16, .slice B16 mu q16] 24))) (Bs.new w16 (.int .i64 uv) (.slice A16 nu k16) (.slice B16 mu q16))))))))
         obtain ⟨cb90, cb91, cb92⟩ := Hw16.out.2.2.2.2.1.c
         clear hbw16 hz hN16)
      | (go_at_call 17; (with_reducible refine (RU _ _ _ _ _ _ Hw16.out.2.2.2.1).mono ?_); rintro e w17 hq17
         obtain ⟨A17, k17, B17, q17, rfl, hN17, hbw17⟩ := AsIs.nw (n := nu) (m := mu) hq17 HN.out.2.2.2.1 HN.out.2.2.2.2
         have hz := bn hbw17 (bx_on w17 (.cells #[.int .i64 uv, .slice A17 nu k17, .slice B17 mu q17] 24))
         have Hw17 := Lib.hid (And.intro (bn Hw16.out.1 hz) (And.intro (Hw16.out.2.1.on hz) (And.intro (Hw16.out.2.2.1.on hz) (And.intro (Hw16.out.2.2.2.1.on hz) (And.intro (Hw16.out.2.2.2.2.1.on hz) (And.intro (Hw16.out.2.2.2.2.2.1.on hz) (And.intro (Hw16.out.2.2.2.2.2.2.on hz) (And.intro (hN17.on (bx_on w17 (.cells #[.int .i64 uv, .slice A17 nu k17, .slice B17 mu q17] 24))) (Bs.new w17 (.int .i64 uv) (.slice A17 nu k17) (.slice B17 mu q17))))))))))
         clear hbw17 hz hN17))
    have HSk : Hid (∀ W', Below (w17.alloc (.cells #[.int .i64 uv, .slice A17 nu k17, .slice B17 mu q17] 24)).heap.size (w17.alloc (.cells #[.int .i64 uv, .slice A17 nu k17, .slice B17 mu q17] 24)) W' → (fun W : World => (W.cell? ⟨w.heap.size, 0, none⟩ = some (.int .i64 a0) ∧ W.cell? ⟨w.heap.size, 1, none⟩ = some (.slice A0 n k0) ∧ W.cell? ⟨w.heap.size, 2, none⟩ = some (.slice B0 m q0)) ∧ (W.cell? ⟨w2.heap.size, 0, none⟩ = some (.int .i64 a0) ∧ W.cell? ⟨w2.heap.size, 1, none⟩ = some (.slice A2 n k2) ∧ W.cell? ⟨w2.heap.size, 2, none⟩ = some (.slice B2 m q2)) ∧ (W.cell? ⟨w16.heap.size, 0, none⟩ = some (.int .i64 uv) ∧ W.cell? ⟨w16.heap.size, 1, none⟩ = some (.slice A16 nu k16) ∧ W.cell? ⟨w16.heap.size, 2, none⟩ = some (.slice B16 mu q16)) ∧ (W.cell? ⟨w17.heap.size, 0, none⟩ = some (.int .i64 uv) ∧ W.cell? ⟨w17.heap.size, 1, none⟩ = some (.slice A17 nu k17) ∧ W.cell? ⟨w17.heap.size, 2, none⟩ = some (.slice B17 mu q17))) W') := Lib.hid fun W' hb => ⟨(Hw17.out.2.2.1.on hb).c, (Hw17.out.2.2.2.2.1.on hb).c, (Hw17.out.2.2.2.2.2.2.1.on hb).c, (Hw17.out.2.2.2.2.2.2.2.2.on hb).c⟩
    have HQ := Lib.hid (And.intro Hw17.out.2.1 (And.intro Hw17.out.2.2.2.1 (And.intro Hw17.out.2.2.2.2.2.1 (And.intro Hw17.out.2.2.2.2.2.2.2.1 Hw17.out.1))))
    clear CT CN CM CD CI CV CL CU RPt RPf RV RL RU Hw1 Hw2 Hw3 Hw4 Hw5 Hw6 Hw7 Hw8 Hw9 Hw10 Hw11 HK Hw12 Hw13 Hw14 Hw15 Hw16 Hw17
    generalize hWx : (w17.alloc (.cells #[.int .i64 uv, .slice A17 nu k17, .slice B17 mu q17] 24)) = Wx at HSk HQ ⊢
    clear hWx
    have hS0 : (fun W : World => (W.cell? ⟨w.heap.size, 0, none⟩ = some (.int .i64 a0) ∧ W.cell? ⟨w.heap.size, 1, none⟩ = some (.slice A0 n k0) ∧ W.cell? ⟨w.heap.size, 2, none⟩ = some (.slice B0 m q0)) ∧ (W.cell? ⟨w2.heap.size, 0, none⟩ = some (.int .i64 a0) ∧ W.cell? ⟨w2.heap.size, 1, none⟩ = some (.slice A2 n k2) ∧ W.cell? ⟨w2.heap.size, 2, none⟩ = some (.slice B2 m q2)) ∧ (W.cell? ⟨w16.heap.size, 0, none⟩ = some (.int .i64 uv) ∧ W.cell? ⟨w16.heap.size, 1, none⟩ = some (.slice A16 nu k16) ∧ W.cell? ⟨w16.heap.size, 2, none⟩ = some (.slice B16 mu q16)) ∧ (W.cell? ⟨w17.heap.size, 0, none⟩ = some (.int .i64 uv) ∧ W.cell? ⟨w17.heap.size, 1, none⟩ = some (.slice A17 nu k17) ∧ W.cell? ⟨w17.heap.size, 2, none⟩ = some (.slice B17 mu q17))) Wx.drew := HSk.out _ (below_dn (Below.refl _ _) 1)
    refine wp_slots (fun f => Sz f 173 ∧ Slot f 4 (.pointer (some ⟨w.heap.size, 0, none⟩)) ∧ Slot f 9 (.pointer (some ⟨w2.heap.size, 0, none⟩)) ∧ Slot f 11 (.int .i64 we) ∧ Slot f 13 (.int .i64 we) ∧ Slot f 15 (.int .i64 le) ∧ Slot f 17 (.int .i64 le) ∧ Slot f 19 (.int .i64 ue) ∧ Slot f 21 (.int .i64 ue) ∧ Slot f 22 (.int .u8 vv) ∧ Slot f 23 (.int .u8 vv) ∧ Slot f 24 (.int .i64 lv) ∧ Slot f 25 (.int .i64 lv) ∧ Slot f 26 (.pointer (some ⟨w16.heap.size, 0, none⟩)) ∧ Slot f 27 (.pointer (some ⟨w17.heap.size, 0, none⟩))) ⟨⟨rfl, rfl⟩, ⟨rfl⟩, ⟨rfl⟩, ⟨rfl⟩, ⟨rfl⟩, ⟨rfl⟩, ⟨rfl⟩, ⟨rfl⟩, ⟨rfl⟩, ⟨rfl⟩, ⟨rfl⟩, ⟨rfl⟩, ⟨rfl⟩, ⟨rfl⟩, ⟨rfl⟩⟩ fun a0' hA0 hR => ?_
    obtain ⟨hZ, hs4, hs9, hs11, hs13, hs15, hs17, hs19, hs21, hs22, hs23, hs24, hs25, hs26, hs27⟩ := hR
    clear hA0
    refine wp_region_T (fun W : World => (W.cell? ⟨w.heap.size, 0, none⟩ = some (.int .i64 a0) ∧ W.cell? ⟨w.heap.size, 1, none⟩ = some (.slice A0 n k0) ∧ W.cell? ⟨w.heap.size, 2, none⟩ = some (.slice B0 m q0)) ∧ (W.cell? ⟨w2.heap.size, 0, none⟩ = some (.int .i64 a0) ∧ W.cell? ⟨w2.heap.size, 1, none⟩ = some (.slice A2 n k2) ∧ W.cell? ⟨w2.heap.size, 2, none⟩ = some (.slice B2 m q2)) ∧ (W.cell? ⟨w16.heap.size, 0, none⟩ = some (.int .i64 uv) ∧ W.cell? ⟨w16.heap.size, 1, none⟩ = some (.slice A16 nu k16) ∧ W.cell? ⟨w16.heap.size, 2, none⟩ = some (.slice B16 mu q16)) ∧ (W.cell? ⟨w17.heap.size, 0, none⟩ = some (.int .i64 uv) ∧ W.cell? ⟨w17.heap.size, 1, none⟩ = some (.slice A17 nu k17) ∧ W.cell? ⟨w17.heap.size, 2, none⟩ = some (.slice B17 mu q17))) 41 (by kernel_rfl) ?_
    refine WT.h ?_
    (refine wt_move 0 22 rfl rfl (by kernel_rfl) (by kernel_rfl) (by kernel_rfl) (by kernel_rfl) (fun _ _ _ h => h) rfl hS0 (by (repeat (first | (refine slot_hit (N := 173) ?_ (by rfl); (repeat (refine sz_put ?_)); assumption; done) | (apply slot_miss; focus rfl))); all_goals assumption) rfl ?_); (refine wt_move 1 23 rfl rfl (by kernel_rfl) (by kernel_rfl) (by kernel_rfl) (by kernel_rfl) (fun _ _ _ h => h) rfl hS0 (by (repeat (first | (refine slot_hit (N := 173) ?_ (by rfl); (repeat (refine sz_put ?_)); assumption; done) | (apply slot_miss; focus rfl))); all_goals assumption) rfl ?_); (refine wt_take2 2 133 134 (v := ?_) rfl rfl (by kernel_rfl) (by kernel_rfl) (by kernel_rfl) (by kernel_rfl) (fun _ _ _ h => h) rfl hS0 (by (repeat (first | (refine slot_hit (N := 173) ?_ (by rfl); (repeat (refine sz_put ?_)); assumption; done) | (apply slot_miss; focus rfl))); all_goals assumption) (by (repeat (first | (refine slot_hit (N := 173) ?_ (by rfl); (repeat (refine sz_put ?_)); assumption; done) | (apply slot_miss; focus rfl))); all_goals assumption) (fun ev hk hv0 hv1 w hS => ?_) ?_; rotate_left; focus (obtain ⟨⟨x00, x01, x02⟩, ⟨x10, x11, x12⟩, ⟨x20, x21, x22⟩, x30, x31, x32⟩ := hS; go_simp; rfl)); (refine wt_move 3 135 rfl rfl (by kernel_rfl) (by kernel_rfl) (by kernel_rfl) (by kernel_rfl) (fun _ _ _ h => h) rfl hS0 (by (repeat (first | (refine slot_hit (N := 173) ?_ (by rfl); (repeat (refine sz_put ?_)); assumption; done) | (apply slot_miss; focus rfl))); all_goals assumption) rfl ?_); (refine wt_move 4 11 rfl rfl (by kernel_rfl) (by kernel_rfl) (by kernel_rfl) (by kernel_rfl) (fun _ _ _ h => h) (wanted_of rfl rfl (by (repeat (first | (refine slot_hit (N := 173) ?_ (by rfl); (repeat (refine sz_put ?_)); assumption; done) | (apply slot_miss; focus rfl))); all_goals assumption) rfl) hS0 (by (repeat (first | (refine slot_hit (N := 173) ?_ (by rfl); (repeat (refine sz_put ?_)); assumption; done) | (apply slot_miss; focus rfl))); all_goals assumption) rfl ?_); (refine wt_move 5 13 rfl rfl (by kernel_rfl) (by kernel_rfl) (by kernel_rfl) (by kernel_rfl) (fun _ _ _ h => h) (wanted_of rfl rfl (by (repeat (first | (refine slot_hit (N := 173) ?_ (by rfl); (repeat (refine sz_put ?_)); assumption; done) | (apply slot_miss; focus rfl))); all_goals assumption) rfl) hS0 (by (repeat (first | (refine slot_hit (N := 173) ?_ (by rfl); (repeat (refine sz_put ?_)); assumption; done) | (apply slot_miss; focus rfl))); all_goals assumption) rfl ?_); (refine wt_take2 6 137 138 (v := ?_) rfl rfl (by kernel_rfl) (by kernel_rfl) (by kernel_rfl) (by kernel_rfl) (fun _ _ _ h => h) (wanted_of rfl rfl (by (repeat (first | (refine slot_hit (N := 173) ?_ (by rfl); (repeat (refine sz_put ?_)); assumption; done) | (apply slot_miss; focus rfl))); all_goals assumption) rfl) hS0 (by (repeat (first | (refine slot_hit (N := 173) ?_ (by rfl); (repeat (refine sz_put ?_)); assumption; done) | (apply slot_miss; focus rfl))); all_goals assumption) (by (repeat (first | (refine slot_hit (N := 173) ?_ (by rfl); (repeat (refine sz_put ?_)); assumption; done) | (apply slot_miss; focus rfl))); all_goals assumption) (fun ev hk hv0 hv1 w hS => ?_) ?_; rotate_left; focus (obtain ⟨⟨x00, x01, x02⟩, ⟨x10, x11, x12⟩, ⟨x20, x21, x22⟩, x30, x31, x32⟩ := hS; go_simp; rfl)); (refine wt_take2 7 136 139 (v := ?_) rfl rfl (by kernel_rfl) (by kernel_rfl) (by kernel_rfl) (by kernel_rfl) (fun _ _ _ h => h) rfl hS0 (by (repeat (first | (refine slot_hit (N := 173) ?_ (by rfl); (repeat (refine sz_put ?_)); assumption; done) | (apply slot_miss; focus rfl))); all_goals assumption) (by (repeat (first | (refine slot_hit (N := 173) ?_ (by rfl); (repeat (refine sz_put ?_)); assumption; done) | (apply slot_miss; focus rfl))); all_goals assumption) (fun ev hk hv0 hv1 w hS => ?_) ?_; rotate_left; focus (obtain ⟨⟨x00, x01, x02⟩, ⟨x10, x11, x12⟩, ⟨x20, x21, x22⟩, x30, x31, x32⟩ := hS; go_simp; rfl)); (refine wt_move 8 140 rfl rfl (by kernel_rfl) (by kernel_rfl) (by kernel_rfl) (by kernel_rfl) (fun _ _ _ h => h) rfl hS0 (by (repeat (first | (refine slot_hit (N := 173) ?_ (by rfl); (repeat (refine sz_put ?_)); assumption; done) | (apply slot_miss; focus rfl))); all_goals assumption) rfl ?_); (refine wt_move 9 24 rfl rfl (by kernel_rfl) (by kernel_rfl) (by kernel_rfl) (by kernel_rfl) (fun _ _ _ h => h) (wanted_of rfl rfl (by (repeat (first | (refine slot_hit (N := 173) ?_ (by rfl); (repeat (refine sz_put ?_)); assumption; done) | (apply slot_miss; focus rfl))); all_goals assumption) rfl) hS0 (by (repeat (first | (refine slot_hit (N := 173) ?_ (by rfl); (repeat (refine sz_put ?_)); assumption; done) | (apply slot_miss; focus rfl))); all_goals assumption) rfl ?_); (refine wt_move 10 25 rfl rfl (by kernel_rfl) (by kernel_rfl) (by kernel_rfl) (by kernel_rfl) (fun _ _ _ h => h) (wanted_of rfl rfl (by (repeat (first | (refine slot_hit (N := 173) ?_ (by rfl); (repeat (refine sz_put ?_)); assumption; done) | (apply slot_miss; focus rfl))); all_goals assumption) rfl) hS0 (by (repeat (first | (refine slot_hit (N := 173) ?_ (by rfl); (repeat (refine sz_put ?_)); assumption; done) | (apply slot_miss; focus rfl))); all_goals assumption) rfl ?_); (refine wt_take2 11 142 143 (v := ?_) rfl rfl (by kernel_rfl) (by kernel_rfl) (by kernel_rfl) (by kernel_rfl) (fun _ _ _ h => h) (wanted_of rfl rfl (by (repeat (first | (refine slot_hit (N := 173) ?_ (by rfl); (repeat (refine sz_put ?_)); assumption; done) | (apply slot_miss; focus rfl))); all_goals assumption) rfl) hS0 (by (repeat (first | (refine slot_hit (N := 173) ?_ (by rfl); (repeat (refine sz_put ?_)); assumption; done) | (apply slot_miss; focus rfl))); all_goals assumption) (by (repeat (first | (refine slot_hit (N := 173) ?_ (by rfl); (repeat (refine sz_put ?_)); assumption; done) | (apply slot_miss; focus rfl))); all_goals assumption) (fun ev hk hv0 hv1 w hS => ?_) ?_; rotate_left; focus (obtain ⟨⟨x00, x01, x02⟩, ⟨x10, x11, x12⟩, ⟨x20, x21, x22⟩, x30, x31, x32⟩ := hS; go_simp; rfl)); (refine wt_take2 12 141 144 (v := ?_) rfl rfl (by kernel_rfl) (by kernel_rfl) (by kernel_rfl) (by kernel_rfl) (fun _ _ _ h => h) rfl hS0 (by (repeat (first | (refine slot_hit (N := 173) ?_ (by rfl); (repeat (refine sz_put ?_)); assumption; done) | (apply slot_miss; focus rfl))); all_goals assumption) (by (repeat (first | (refine slot_hit (N := 173) ?_ (by rfl); (repeat (refine sz_put ?_)); assumption; done) | (apply slot_miss; focus rfl))); all_goals assumption) (fun ev hk hv0 hv1 w hS => ?_) ?_; rotate_left; focus (obtain ⟨⟨x00, x01, x02⟩, ⟨x10, x11, x12⟩, ⟨x20, x21, x22⟩, x30, x31, x32⟩ := hS; go_simp; rfl)); (refine wt_move 13 145 rfl rfl (by kernel_rfl) (by kernel_rfl) (by kernel_rfl) (by kernel_rfl) (fun _ _ _ h => h) rfl hS0 (by (repeat (first | (refine slot_hit (N := 173) ?_ (by rfl); (repeat (refine sz_put ?_)); assumption; done) | (apply slot_miss; focus rfl))); all_goals assumption) rfl ?_); (refine wt_move 14 15 rfl rfl (by kernel_rfl) (by kernel_rfl) (by kernel_rfl) (by kernel_rfl) (fun _ _ _ h => h) (wanted_of rfl rfl (by (repeat (first | (refine slot_hit (N := 173) ?_ (by rfl); (repeat (refine sz_put ?_)); assumption; done) | (apply slot_miss; focus rfl))); all_goals assumption) rfl) hS0 (by (repeat (first | (refine slot_hit (N := 173) ?_ (by rfl); (repeat (refine sz_put ?_)); assumption; done) | (apply slot_miss; focus rfl))); all_goals assumption) rfl ?_); (refine wt_move 15 17 rfl rfl (by kernel_rfl) (by kernel_rfl) (by kernel_rfl) (by kernel_rfl) (fun _ _ _ h => h) (wanted_of rfl rfl (by (repeat (first | (refine slot_hit (N := 173) ?_ (by rfl); (repeat (refine sz_put ?_)); assumption; done) | (apply slot_miss; focus rfl))); all_goals assumption) rfl) hS0 (by (repeat (first | (refine slot_hit (N := 173) ?_ (by rfl); (repeat (refine sz_put ?_)); assumption; done) | (apply slot_miss; focus rfl))); all_goals assumption) rfl ?_); (refine wt_take2 16 147 148 (v := ?_) rfl rfl (by kernel_rfl) (by kernel_rfl) (by kernel_rfl) (by kernel_rfl) (fun _ _ _ h => h) (wanted_of rfl rfl (by (repeat (first | (refine slot_hit (N := 173) ?_ (by rfl); (repeat (refine sz_put ?_)); assumption; done) | (apply slot_miss; focus rfl))); all_goals assumption) rfl) hS0 (by (repeat (first | (refine slot_hit (N := 173) ?_ (by rfl); (repeat (refine sz_put ?_)); assumption; done) | (apply slot_miss; focus rfl))); all_goals assumption) (by (repeat (first | (refine slot_hit (N := 173) ?_ (by rfl); (repeat (refine sz_put ?_)); assumption; done) | (apply slot_miss; focus rfl))); all_goals assumption) (fun ev hk hv0 hv1 w hS => ?_) ?_; rotate_left; focus (obtain ⟨⟨x00, x01, x02⟩, ⟨x10, x11, x12⟩, ⟨x20, x21, x22⟩, x30, x31, x32⟩ := hS; go_simp; rfl)); (refine wt_take2 17 146 149 (v := ?_) rfl rfl (by kernel_rfl) (by kernel_rfl) (by kernel_rfl) (by kernel_rfl) (fun _ _ _ h => h) rfl hS0 (by (repeat (first | (refine slot_hit (N := 173) ?_ (by rfl); (repeat (refine sz_put ?_)); assumption; done) | (apply slot_miss; focus rfl))); all_goals assumption) (by (repeat (first | (refine slot_hit (N := 173) ?_ (by rfl); (repeat (refine sz_put ?_)); assumption; done) | (apply slot_miss; focus rfl))); all_goals assumption) (fun ev hk hv0 hv1 w hS => ?_) ?_; rotate_left; focus (obtain ⟨⟨x00, x01, x02⟩, ⟨x10, x11, x12⟩, ⟨x20, x21, x22⟩, x30, x31, x32⟩ := hS; go_simp; rfl)); (refine wt_move 18 150 rfl rfl (by kernel_rfl) (by kernel_rfl) (by kernel_rfl) (by kernel_rfl) (fun _ _ _ h => h) rfl hS0 (by (repeat (first | (refine slot_hit (N := 173) ?_ (by rfl); (repeat (refine sz_put ?_)); assumption; done) | (apply slot_miss; focus rfl))); all_goals assumption) rfl ?_); (refine wt_take1 19 26 (v := ?_) rfl rfl (by kernel_rfl) (by kernel_rfl) (by kernel_rfl) (by kernel_rfl) (fun _ _ _ h => h) (wanted_of rfl rfl (by (repeat (first | (refine slot_hit (N := 173) ?_ (by rfl); (repeat (refine sz_put ?_)); assumption; done) | (apply slot_miss; focus rfl))); all_goals assumption) rfl) hS0 (by (repeat (first | (refine slot_hit (N := 173) ?_ (by rfl); (repeat (refine sz_put ?_)); assumption; done) | (apply slot_miss; focus rfl))); all_goals assumption) (fun ev hk hv0 w hS => ?_) ?_; rotate_left; focus (obtain ⟨⟨x00, x01, x02⟩, ⟨x10, x11, x12⟩, ⟨x20, x21, x22⟩, x30, x31, x32⟩ := hS; go_simp; rfl)); (refine wt_take1 20 27 (v := ?_) rfl rfl (by kernel_rfl) (by kernel_rfl) (by kernel_rfl) (by kernel_rfl) (fun _ _ _ h => h) (wanted_of rfl rfl (by (repeat (first | (refine slot_hit (N := 173) ?_ (by rfl); (repeat (refine sz_put ?_)); assumption; done) | (apply slot_miss; focus rfl))); all_goals assumption) rfl) hS0 (by (repeat (first | (refine slot_hit (N := 173) ?_ (by rfl); (repeat (refine sz_put ?_)); assumption; done) | (apply slot_miss; focus rfl))); all_goals assumption) (fun ev hk hv0 w hS => ?_) ?_; rotate_left; focus (obtain ⟨⟨x00, x01, x02⟩, ⟨x10, x11, x12⟩, ⟨x20, x21, x22⟩, x30, x31, x32⟩ := hS; go_simp; rfl))
    have C1 := Nw.same (v := uv) (HQ.out.2.2.1.on (below_dn (Below.refl _ _) 1)) HZ.out.2.2.2.1 HZ.out.2.2.2.2 (HQ.out.2.2.2.1.on (below_dn (Below.refl _ _) 1))
    refine wt_call2 21 152 153 (by kernel_rfl) rfl rfl (wanted_of rfl rfl (by (repeat (first | (refine slot_hit (N := 173) ?_ (by rfl); (repeat (refine sz_put ?_)); assumption; done) | (apply slot_miss; focus rfl))); all_goals assumption) rfl) (by (repeat (first | (refine slot_hit (N := 173) ?_ (by rfl); (repeat (refine sz_put ?_)); assumption; done) | (apply slot_miss; focus rfl))); all_goals assumption) (by (repeat (first | (refine slot_hit (N := 173) ?_ (by rfl); (repeat (refine sz_put ?_)); assumption; done) | (apply slot_miss; focus rfl))); all_goals assumption) (f := ?_) (args := ?_) (fun ev hk hkf hv0 hv1 => ?_) ?_; rotate_left 2; focus (go_simp; first | rfl | (constructor <;> rfl))
    refine C1.mono ?_
    rintro e w18 ⟨rfl, hb18⟩
    have hb18 := bn (below_dn (Below.refl _ _) 1) hb18
    have hS0 := HSk.out w18 hb18
    refine ⟨_, rfl, fun _ => hS0, ?_⟩
    clear C1
    (refine wt_take2 22 151 154 (v := ?_) rfl rfl (by kernel_rfl) (by kernel_rfl) (by kernel_rfl) (by kernel_rfl) (fun _ _ _ h => h) rfl hS0 (by (repeat (first | (refine slot_hit (N := 173) ?_ (by rfl); (repeat (refine sz_put ?_)); assumption; done) | (apply slot_miss; focus rfl))); all_goals assumption) (by (repeat (first | (refine slot_hit (N := 173) ?_ (by rfl); (repeat (refine sz_put ?_)); assumption; done) | (apply slot_miss; focus rfl))); all_goals assumption) (fun ev hk hv0 hv1 w hS => ?_) ?_; rotate_left; focus (obtain ⟨⟨x00, x01, x02⟩, ⟨x10, x11, x12⟩, ⟨x20, x21, x22⟩, x30, x31, x32⟩ := hS; go_simp; rfl)); (refine wt_move 23 155 rfl rfl (by kernel_rfl) (by kernel_rfl) (by kernel_rfl) (by kernel_rfl) (fun _ _ _ h => h) rfl hS0 (by (repeat (first | (refine slot_hit (N := 173) ?_ (by rfl); (repeat (refine sz_put ?_)); assumption; done) | (apply slot_miss; focus rfl))); all_goals assumption) rfl ?_); (refine wt_move 24 19 rfl rfl (by kernel_rfl) (by kernel_rfl) (by kernel_rfl) (by kernel_rfl) (fun _ _ _ h => h) (wanted_of rfl rfl (by (repeat (first | (refine slot_hit (N := 173) ?_ (by rfl); (repeat (refine sz_put ?_)); assumption; done) | (apply slot_miss; focus rfl))); all_goals assumption) rfl) hS0 (by (repeat (first | (refine slot_hit (N := 173) ?_ (by rfl); (repeat (refine sz_put ?_)); assumption; done) | (apply slot_miss; focus rfl))); all_goals assumption) rfl ?_); (refine wt_move 25 21 rfl rfl (by kernel_rfl) (by kernel_rfl) (by kernel_rfl) (by kernel_rfl) (fun _ _ _ h => h) (wanted_of rfl rfl (by (repeat (first | (refine slot_hit (N := 173) ?_ (by rfl); (repeat (refine sz_put ?_)); assumption; done) | (apply slot_miss; focus rfl))); all_goals assumption) rfl) hS0 (by (repeat (first | (refine slot_hit (N := 173) ?_ (by rfl); (repeat (refine sz_put ?_)); assumption; done) | (apply slot_miss; focus rfl))); all_goals assumption) rfl ?_); (refine wt_take2 26 157 158 (v := ?_) rfl rfl (by kernel_rfl) (by kernel_rfl) (by kernel_rfl) (by kernel_rfl) (fun _ _ _ h => h) (wanted_of rfl rfl (by (repeat (first | (refine slot_hit (N := 173) ?_ (by rfl); (repeat (refine sz_put ?_)); assumption; done) | (apply slot_miss; focus rfl))); all_goals assumption) rfl) hS0 (by (repeat (first | (refine slot_hit (N := 173) ?_ (by rfl); (repeat (refine sz_put ?_)); assumption; done) | (apply slot_miss; focus rfl))); all_goals assumption) (by (repeat (first | (refine slot_hit (N := 173) ?_ (by rfl); (repeat (refine sz_put ?_)); assumption; done) | (apply slot_miss; focus rfl))); all_goals assumption) (fun ev hk hv0 hv1 w hS => ?_) ?_; rotate_left; focus (obtain ⟨⟨x00, x01, x02⟩, ⟨x10, x11, x12⟩, ⟨x20, x21, x22⟩, x30, x31, x32⟩ := hS; go_simp; rfl)); (refine wt_take2 27 156 159 (v := ?_) rfl rfl (by kernel_rfl) (by kernel_rfl) (by kernel_rfl) (by kernel_rfl) (fun _ _ _ h => h) rfl hS0 (by (repeat (first | (refine slot_hit (N := 173) ?_ (by rfl); (repeat (refine sz_put ?_)); assumption; done) | (apply slot_miss; focus rfl))); all_goals assumption) (by (repeat (first | (refine slot_hit (N := 173) ?_ (by rfl); (repeat (refine sz_put ?_)); assumption; done) | (apply slot_miss; focus rfl))); all_goals assumption) (fun ev hk hv0 hv1 w hS => ?_) ?_; rotate_left; focus (obtain ⟨⟨x00, x01, x02⟩, ⟨x10, x11, x12⟩, ⟨x20, x21, x22⟩, x30, x31, x32⟩ := hS; go_simp; rfl)); (refine wt_move 28 160 rfl rfl (by kernel_rfl) (by kernel_rfl) (by kernel_rfl) (by kernel_rfl) (fun _ _ _ h => h) rfl hS0 (by (repeat (first | (refine slot_hit (N := 173) ?_ (by rfl); (repeat (refine sz_put ?_)); assumption; done) | (apply slot_miss; focus rfl))); all_goals assumption) rfl ?_); (refine wt_take1 29 4 (v := ?_) rfl rfl (by kernel_rfl) (by kernel_rfl) (by kernel_rfl) (by kernel_rfl) (fun _ _ _ h => h) (wanted_of rfl rfl (by (repeat (first | (refine slot_hit (N := 173) ?_ (by rfl); (repeat (refine sz_put ?_)); assumption; done) | (apply slot_miss; focus rfl))); all_goals assumption) rfl) hS0 (by (repeat (first | (refine slot_hit (N := 173) ?_ (by rfl); (repeat (refine sz_put ?_)); assumption; done) | (apply slot_miss; focus rfl))); all_goals assumption) (fun ev hk hv0 w hS => ?_) ?_; rotate_left; focus (obtain ⟨⟨x00, x01, x02⟩, ⟨x10, x11, x12⟩, ⟨x20, x21, x22⟩, x30, x31, x32⟩ := hS; go_simp; rfl)); (refine wt_take1 31 9 (v := ?_) rfl rfl (by kernel_rfl) (by kernel_rfl) (by kernel_rfl) (by kernel_rfl) (fun _ _ _ h => h) (wanted_of rfl rfl (by (repeat (first | (refine slot_hit (N := 173) ?_ (by rfl); (repeat (refine sz_put ?_)); assumption; done) | (apply slot_miss; focus rfl))); all_goals assumption) rfl) hS0 (by (repeat (first | (refine slot_hit (N := 173) ?_ (by rfl); (repeat (refine sz_put ?_)); assumption; done) | (apply slot_miss; focus rfl))); all_goals assumption) (fun ev hk hv0 w hS => ?_) ?_; rotate_left; focus (obtain ⟨⟨x00, x01, x02⟩, ⟨x10, x11, x12⟩, ⟨x20, x21, x22⟩, x30, x31, x32⟩ := hS; go_simp; rfl))
    have C2 := CC _ _ (HQ.out.1.on hb18)
    refine wt_call1 30 162 (by kernel_rfl) rfl rfl (wanted_of rfl rfl (by (repeat (first | (refine slot_hit (N := 173) ?_ (by rfl); (repeat (refine sz_put ?_)); assumption; done) | (apply slot_miss; focus rfl))); all_goals assumption) rfl) (by (repeat (first | (refine slot_hit (N := 173) ?_ (by rfl); (repeat (refine sz_put ?_)); assumption; done) | (apply slot_miss; focus rfl))); all_goals assumption) (f := ?_) (args := ?_) (fun ev hk hkf hv0 => ?_) ?_; rotate_left 2; focus (go_simp; first | rfl | (constructor <;> rfl))
    refine C2.mono ?_
    rintro e w19 ⟨rfl, hb19⟩
    have hb19 := bn hb18 hb19
    have hS0 := HSk.out w19 hb19
    refine ⟨_, rfl, fun _ => hS0, ?_⟩
    clear C2
    have C3 := RCk _ _ _ _ _ _ (HQ.out.2.1.on hb19)
    refine wt_call1 32 164 (by kernel_rfl) rfl rfl (wanted_of rfl rfl (by (repeat (first | (refine slot_hit (N := 173) ?_ (by rfl); (repeat (refine sz_put ?_)); assumption; done) | (apply slot_miss; focus rfl))); all_goals assumption) rfl) (by (repeat (first | (refine slot_hit (N := 173) ?_ (by rfl); (repeat (refine sz_put ?_)); assumption; done) | (apply slot_miss; focus rfl))); all_goals assumption) (f := ?_) (args := ?_) (fun ev hk hkf hv0 => ?_) ?_; rotate_left 2; focus (go_simp; first | rfl | (constructor <;> rfl))
    refine C3.mono ?_
    rintro e w20 ⟨rfl, hb20⟩
    have hb20 := bn hb19 hb20
    have hS0 := HSk.out w20 hb20
    refine ⟨_, rfl, fun _ => hS0, ?_⟩
    clear C3
    (refine wt_take2 33 163 165 (v := ?_) rfl rfl (by kernel_rfl) (by kernel_rfl) (by kernel_rfl) (by kernel_rfl) (fun _ _ _ h => h) (wanted_of rfl rfl (by (repeat (first | (refine slot_hit (N := 173) ?_ (by rfl); (repeat (refine sz_put ?_)); assumption; done) | (apply slot_miss; focus rfl))); all_goals assumption) rfl) hS0 (by (repeat (first | (refine slot_hit (N := 173) ?_ (by rfl); (repeat (refine sz_put ?_)); assumption; done) | (apply slot_miss; focus rfl))); all_goals assumption) (by (repeat (first | (refine slot_hit (N := 173) ?_ (by rfl); (repeat (refine sz_put ?_)); assumption; done) | (apply slot_miss; focus rfl))); all_goals assumption) (fun ev hk hv0 hv1 w hS => ?_) ?_; rotate_left; focus (obtain ⟨⟨x00, x01, x02⟩, ⟨x10, x11, x12⟩, ⟨x20, x21, x22⟩, x30, x31, x32⟩ := hS; go_simp; rfl)); (refine wt_take2 34 161 166 (v := ?_) rfl rfl (by kernel_rfl) (by kernel_rfl) (by kernel_rfl) (by kernel_rfl) (fun _ _ _ h => h) rfl hS0 (by (repeat (first | (refine slot_hit (N := 173) ?_ (by rfl); (repeat (refine sz_put ?_)); assumption; done) | (apply slot_miss; focus rfl))); all_goals assumption) (by (repeat (first | (refine slot_hit (N := 173) ?_ (by rfl); (repeat (refine sz_put ?_)); assumption; done) | (apply slot_miss; focus rfl))); all_goals assumption) (fun ev hk hv0 hv1 w hS => ?_) ?_; rotate_left; focus (obtain ⟨⟨x00, x01, x02⟩, ⟨x10, x11, x12⟩, ⟨x20, x21, x22⟩, x30, x31, x32⟩ := hS; go_simp; rfl)); (refine wt_move 35 167 rfl rfl (by kernel_rfl) (by kernel_rfl) (by kernel_rfl) (by kernel_rfl) (fun _ _ _ h => h) rfl hS0 (by (repeat (first | (refine slot_hit (N := 173) ?_ (by rfl); (repeat (refine sz_put ?_)); assumption; done) | (apply slot_miss; focus rfl))); all_goals assumption) rfl ?_); (refine wt_take1 36 4 (v := ?_) rfl rfl (by kernel_rfl) (by kernel_rfl) (by kernel_rfl) (by kernel_rfl) (fun _ _ _ h => h) (wanted_of rfl rfl (by (repeat (first | (refine slot_hit (N := 173) ?_ (by rfl); (repeat (refine sz_put ?_)); assumption; done) | (apply slot_miss; focus rfl))); all_goals assumption) rfl) hS0 (by (repeat (first | (refine slot_hit (N := 173) ?_ (by rfl); (repeat (refine sz_put ?_)); assumption; done) | (apply slot_miss; focus rfl))); all_goals assumption) (fun ev hk hv0 w hS => ?_) ?_; rotate_left; focus (obtain ⟨⟨x00, x01, x02⟩, ⟨x10, x11, x12⟩, ⟨x20, x21, x22⟩, x30, x31, x32⟩ := hS; go_simp; rfl)); (refine wt_take1 37 9 (v := ?_) rfl rfl (by kernel_rfl) (by kernel_rfl) (by kernel_rfl) (by kernel_rfl) (fun _ _ _ h => h) (wanted_of rfl rfl (by (repeat (first | (refine slot_hit (N := 173) ?_ (by rfl); (repeat (refine sz_put ?_)); assumption; done) | (apply slot_miss; focus rfl))); all_goals assumption) rfl) hS0 (by (repeat (first | (refine slot_hit (N := 173) ?_ (by rfl); (repeat (refine sz_put ?_)); assumption; done) | (apply slot_miss; focus rfl))); all_goals assumption) (fun ev hk hv0 w hS => ?_) ?_; rotate_left; focus (obtain ⟨⟨x00, x01, x02⟩, ⟨x10, x11, x12⟩, ⟨x20, x21, x22⟩, x30, x31, x32⟩ := hS; go_simp; rfl))
    have C4 := Nw.same (v := a0) (HQ.out.1.on hb20) HZ0.out.1 HZ0.out.2 (HQ.out.2.1.on hb20)
    refine wt_call2 38 169 170 (by kernel_rfl) rfl rfl (wanted_of rfl rfl (by (repeat (first | (refine slot_hit (N := 173) ?_ (by rfl); (repeat (refine sz_put ?_)); assumption; done) | (apply slot_miss; focus rfl))); all_goals assumption) rfl) (by (repeat (first | (refine slot_hit (N := 173) ?_ (by rfl); (repeat (refine sz_put ?_)); assumption; done) | (apply slot_miss; focus rfl))); all_goals assumption) (by (repeat (first | (refine slot_hit (N := 173) ?_ (by rfl); (repeat (refine sz_put ?_)); assumption; done) | (apply slot_miss; focus rfl))); all_goals assumption) (f := ?_) (args := ?_) (fun ev hk hkf hv0 hv1 => ?_) ?_; rotate_left 2; focus (go_simp; first | rfl | (constructor <;> rfl))
    refine C4.mono ?_
    rintro e w21 ⟨rfl, hb21⟩
    have hb21 := bn hb20 hb21
    have hS0 := HSk.out w21 hb21
    refine ⟨_, rfl, fun _ => hS0, ?_⟩
    clear C4
    (refine wt_take2 39 168 171 (v := ?_) rfl rfl (by kernel_rfl) (by kernel_rfl) (by kernel_rfl) (by kernel_rfl) (fun _ _ _ h => h) rfl hS0 (by (repeat (first | (refine slot_hit (N := 173) ?_ (by rfl); (repeat (refine sz_put ?_)); assumption; done) | (apply slot_miss; focus rfl))); all_goals assumption) (by (repeat (first | (refine slot_hit (N := 173) ?_ (by rfl); (repeat (refine sz_put ?_)); assumption; done) | (apply slot_miss; focus rfl))); all_goals assumption) (fun ev hk hv0 hv1 w hS => ?_) ?_; rotate_left; focus (obtain ⟨⟨x00, x01, x02⟩, ⟨x10, x11, x12⟩, ⟨x20, x21, x22⟩, x30, x31, x32⟩ := hS; go_simp; rfl)); (refine wt_assign 40 172 rfl rfl (by kernel_rfl) (by kernel_rfl) (by kernel_rfl) (by kernel_rfl) (fun _ _ _ h => h) rfl hS0 (by (repeat (first | (refine slot_hit (N := 173) ?_ (by rfl); (repeat (refine sz_put ?_)); assumption; done) | (apply slot_miss; focus rfl))); all_goals assumption) rfl ?_)
    refine wt_known (N := 173) (by kernel_rfl) (by (repeat (refine sz_put ?_)); assumption) [(8, .bool true)] ⟨(by (repeat (first | (refine slot_hit (N := 173) ?_ (by rfl); (repeat (refine sz_put ?_)); assumption; done) | (apply slot_miss; focus rfl))); all_goals assumption), trivial⟩ fun fv fl hfl => ?_; obtain rfl : fl = [fv 0, fv 1, fv 2, fv 3, fv 4, fv 5, fv 6, fv 7, (.bool true : Value), fv 9, fv 10, fv 11, fv 12, fv 13, fv 14, fv 15, fv 16, fv 17, fv 18, fv 19, fv 20, fv 21, fv 22, fv 23, fv 24, fv 25, fv 26, fv 27, fv 28, fv 29, fv 30, fv 31, fv 32, fv 33, fv 34, fv 35, fv 36, fv 37, fv 38, fv 39, fv 40, fv 41, fv 42, fv 43, fv 44, fv 45, fv 46, fv 47, fv 48, fv 49, fv 50, fv 51, fv 52, fv 53, fv 54, fv 55, fv 56, fv 57, fv 58, fv 59, fv 60, fv 61, fv 62, fv 63, fv 64, fv 65, fv 66, fv 67, fv 68, fv 69, fv 70, fv 71, fv 72, fv 73, fv 74, fv 75, fv 76, fv 77, fv 78, fv 79, fv 80, fv 81, fv 82, fv 83, fv 84, fv 85, fv 86, fv 87, fv 88, fv 89, fv 90, fv 91, fv 92, fv 93, fv 94, fv 95, fv 96, fv 97, fv 98, fv 99, fv 100, fv 101, fv 102, fv 103, fv 104, fv 105, fv 106, fv 107, fv 108, fv 109, fv 110, fv 111, fv 112, fv 113, fv 114, fv 115, fv 116, fv 117, fv 118, fv 119, fv 120, fv 121, fv 122, fv 123, fv 124, fv 125, fv 126, fv 127, fv 128, fv 129, fv 130, fv 131, fv 132, fv 133, fv 134, fv 135, fv 136, fv 137, fv 138, fv 139, fv 140, fv 141, fv 142, fv 143, fv 144, fv 145, fv 146, fv 147, fv 148, fv 149, fv 150, fv 151, fv 152, fv 153, fv 154, fv 155, fv 156, fv 157, fv 158, fv 159, fv 160, fv 161, fv 162, fv 163, fv 164, fv 165, fv 166, fv 167, fv 168, fv 169, fv 170, fv 171, fv 172] := hfl.symm.trans (by kernel_rfl); clear hfl
    go_wp2
    go_ret
    exact ⟨rfl, bn HQ.out.2.2.2.2 hb21⟩

set_option maxRecDepth 100000 in
theorem lifted (os : Os) (started : os.Started) (H : Type) (enc : TypeId × Value → H) :
    ReturnsInHanded {} Try.checked os 3 .any (Rows.assignTellsSpec.pre6 enc Try.prog Try.f3 Rows.assignTellsRow.domain false) (Rows.assignTellsSpec.post enc Try.prog Try.f3 false true false false) := by
  refine returnsInHanded_of_change (C := Try.checked) own started (by kernel_rfl) Try.func3
    (ChangeSpec.witness6 (enc := enc) (C := Try.checked) false ⟨#[], #[.agg #[.int .i64 0, .slice none 0 0, .slice none 0 0], .int .i64 0, .int .i64 0, .int .i64 0], []⟩ 12 (by kernel_rfl) (by kernel_rfl) (by kernel_rfl) (by kernel_rfl)) ?_
  intro W base args ds gs before hval0 hW hcnd _
  have hval : ∀ (j : Nat) t v, Try.f3.params[j]? = some t → args[j]? = some v → Value.okWide Try.prog W .any base t v := hval0
  have hW' := hW
  have hlt : ∀ x ∈ before, x.block < W.heap.size := fun x hx => by simpa using hW'.lt x hx
  obtain ⟨p, q, hA0, hV, rfl, hfz, hnd⟩ := hW
  have hA : DataW.TrodAll enc Try.prog W 0 (fun _ => true) true Try.f3.params.toList args.toList ds p := hA0
  rw [Try.params3] at hA hval
  obtain ⟨v0, vs0, d0, ds0, b0, q0, hargs, rfl, rfl, h0, r0⟩ := trodAll_cons hA
  obtain ⟨v1, vs1, d1, ds1, b1, q1, rfl, rfl, rfl, h1, r1⟩ := trodAll_cons r0
  obtain ⟨v2, vs2, d2, ds2, b2, q2, rfl, rfl, rfl, h2, r2⟩ := trodAll_cons r1
  obtain ⟨v3, vs3, d3, ds3, b3, q3, rfl, rfl, rfl, h3, r3⟩ := trodAll_cons r2
  obtain ⟨rfl, rfl, rfl⟩ := trodAll_nil r3
  obtain rfl : args = #[v0, v1, v2, v3] := by cases args; simp_all
  obtain ⟨rfl, rfl⟩ := trodVars_none hV
  obtain ⟨a0, A0, t0, k0, B0, s0, q0, rfl, w0, hm0, hK0, hr0, hn0, hQ0, hs0⟩ := open_as (hval 0 24 v0 rfl rfl) h0
  obtain ⟨a1, rfl, rfl, rfl, w1⟩ := open_int Try.underlying3 (hval 1 3 v1 rfl rfl) h1
  obtain ⟨a2, rfl, rfl, rfl, w2⟩ := open_int Try.underlying3 (hval 2 3 v2 rfl rfl) h2
  obtain ⟨a3, rfl, rfl, rfl, w3⟩ := open_int Try.underlying3 (hval 3 3 v3 rfl rfl) h3
  have hlo : laidOutB Try.prog = true := by kernel_rfl
  clear hA0 hval0
  simp only [List.append_nil] at hW' hlt
  refine (walk a0 A0 t0 k0 B0 s0 q0 a1 a2 a3 W w0 hm0 hr0 hK0 hn0 hs0 hQ0 w1 w2 w3).mono fun e W' ⟨he, hb⟩ => ?_
  subst he
  have hback := (trodAll_cons_mk (arg_back (W' := W') hlo (by kernel_rfl) (of_decide_eq_true (by kernel_rfl)) h0 hb (fun x hx => hlt x (by simp [hx]))) (trodAll_cons_mk (shut_int (enc := enc) (w := W') (base := 0) (spare := fun b => decide (b < W.heap.size)) (held := true) Try.underlying3 w1) (trodAll_cons_mk (shut_int (enc := enc) (w := W') (base := 0) (spare := fun b => decide (b < W.heap.size)) (held := true) Try.underlying3 w2) (trodAll_cons_mk (shut_int (enc := enc) (w := W') (base := 0) (spare := fun b => decide (b < W.heap.size)) (held := true) Try.underlying3 w3) trodAll_mk0))))
  simp only [List.append_nil, List.nil_append] at hback
  exact ⟨_, rfl, law_post hW' (trodAll_cons_mk (shut_bool Try.underlying4 _) trodAll_mk0) hback rfl hb⟩

theorem over : Rows.assignTellsRow.holds Try.pinned (OpenSpec.ofChange Rows.assignTellsSpec) :=
  OpenClaim.holds_of_wide 3 Try.f3 rfl rfl rfl rfl rfl rfl rfl ⟨rfl, rfl, rfl, rfl, rfl⟩ rfl rfl rfl rfl rfl (by kernel_rfl) Try.func3 (by kernel_rfl)
    (of_decide_eq_true (by kernel_rfl)) (by unfold Func.isWrapper; first | (rw [if_pos (by decide +kernel)]; kernel_rfl) | (rw [if_neg (by decide +kernel)]; exact ⟨rfl, rfl⟩))
    (fun os started H enc _ => lifted os started H enc)

theorem proved : Rows.AssignTellsSaid :=
  over
end Go.Proofs.Ytcmdongdjacgbaa.assignTells
