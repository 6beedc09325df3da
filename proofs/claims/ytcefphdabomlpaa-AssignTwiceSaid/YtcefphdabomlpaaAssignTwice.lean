/- For a valid assignment of at most 200 literals and two levels: undone to the higher one and then to the lower one is undone to the lower one at once. No conditions. -/
import Derived.Test.YtcefphdabomlpaaAsGuard
namespace Go.Proofs.Ytcefphdabomlpaa.assignTwice
open Go.ChangeShapes Go.WideShapes Go.ChangeAt Go.RowKit
set_option linter.unusedVariables false
set_option linter.unusedSimpArgs false


theorem own : ownKnob Try.prog.godebug = none := by kernel_rfl

set_option maxRecDepth 100000 in
set_option maxHeartbeats 4000000 in
theorem walk (a0 : Int) (A0 : Option Addr) (t0 : List Int) (k0 : Nat) (B0 : Option Addr) (s0 : List Int) (q0 : Nat) (a1 : Int) (a2 : Int) (w : World) (w0 : (Lit.int .i64 a0).wf = true) (hm0 : Ia w w.heap.size A0 t0 k0) (hr0 : ∀ x ∈ t0, I64 x) (hK0 : k0 ≤ maxLen) (hn0 : Ia w w.heap.size B0 s0 q0) (hs0 : ∀ x ∈ s0, I64 x) (hQ0 : q0 ≤ maxLen) (w1 : (Lit.int .i64 a1).wf = true) (w2 : (Lit.int .i64 a2).wf = true) :
    Calls Try.prog 6 #[.agg #[.int .i64 a0, .slice A0 t0.length k0, .slice B0 s0.length q0], .int .i64 a1, .int .i64 a2] w fun e w' => e = .returned (.bool true) ∧ Below w.heap.size w w' := by
  have hv0 := i64_of w0
  have hv1 := i64_of w1
  have hv2 := i64_of w2
  unfold I64 at hv1 hv2
  clear w0 w1 w2
  have hk0 : k0 ≤ 9223372036854775807 ∧ q0 ≤ 9223372036854775807 := ⟨hK0, hQ0⟩
  obtain ⟨n, hn⟩ : ∃ n, n = t0.length := ⟨_, rfl⟩
  obtain ⟨m, hm⟩ : ∃ m, m = s0.length := ⟨_, rfl⟩
  have hn63 : n ≤ 9223372036854775807 := by have := hm0.c; omega
  have hm63 : m ≤ 9223372036854775807 := by have := hn0.c; omega
  have hNw := Nw.arg hm0 hn0 hn hm
  rw [← hn, ← hm]
  have DA := alive14_any (w.alloc (.cells #[.int .i64 a0, .slice A0 n k0, .slice B0 m q0] 24))
  have DG := fun W => rGreat14_any a0 A0 n k0 B0 m q0 W hn63 hm63
  by_cases hg : 200 < n ∨ 200 < m
  · rw [show decide (200 < n ∨ 200 < m) = true from decide_eq_true hg] at DG
    clear hm0 hr0 hK0 hn0 hs0 hQ0 hn hm hk0 hNw hg hn63 hm63
    go_enter Try.func6, Try.ntmps6
    go_wp2_with (first
      | (go_at_call 26; (with_reducible refine DA.mono ?_); rintro e w3 ⟨rfl, hb3⟩
         have c0 := bx_cell hb3 0
         have c1 := bx_cell hb3 1
         have c2 := bx_cell hb3 2
         have HB3 := Lib.hid (bx_bn hb3)
         clear hb3)
      | (go_at_call 9; (with_reducible refine (DG w3).mono ?_); rintro e w4 ⟨rfl, hb4⟩
         have HB4 := Lib.hid (bn HB3.out hb4)
         clear hb4))
    go_ret
    exact ⟨rfl, HB4.out⟩
  · rw [show decide (200 < n ∨ 200 < m) = false from decide_eq_false hg] at DG
    have DC := fun (W : World) (hb : Below w.heap.size w W) => (hNw.on hb).rcheck (by omega) (by omega) a0
    by_cases hO : OkA a0 t0 s0
    · rw [aE_yes hO] at DC
      by_cases hl : a2 < 0 ∨ a1 < a2 ∨ (m : Int) < a1
      · have hl1 := hl
        clear hm0 hr0 hK0 hn0 hs0 hQ0 hn hm hk0 hNw hg hn63 hm63 hl
        by_cases h1 : a2 < 0
        · clear hl1
          go_enter Try.func6, Try.ntmps6
          go_wp2_with (first
            | (go_at_call 26; (with_reducible refine DA.mono ?_); rintro e w3 ⟨rfl, hb3⟩
               have c0 := bx_cell hb3 0
               have c1 := bx_cell hb3 1
               have c2 := bx_cell hb3 2
               have HC3 := Lib.hid hb3
               have HB3 := Lib.hid (bx_bn hb3)
               clear hb3)
            | (go_at_call 9; (with_reducible refine (DG w3).mono ?_); rintro e w4 ⟨rfl, hb4⟩
               have d0 := bx_cell (bn HC3.out hb4) 0
               have d1 := bx_cell (bn HC3.out hb4) 1
               have d2 := bx_cell (bn HC3.out hb4) 2
               have HC4 := Lib.hid (bn HC3.out hb4)
               have HB4 := Lib.hid (bn HB3.out hb4)
               clear hb4)
            | (go_at_call 24; (with_reducible refine (DC w4 HB4.out).mono ?_); rintro e w5 ⟨rfl, hb5⟩
               have e0 := bx_cell (bn HC4.out hb5) 0
               have e1 := bx_cell (bn HC4.out hb5) 1
               have e2 := bx_cell (bn HC4.out hb5) 2
               have HB5 := Lib.hid (bn HB4.out hb5)
               clear hb5))
          go_ret
          exact ⟨rfl, HB5.out⟩
        · by_cases h2 : a1 < a2
          · clear hl1
            go_enter Try.func6, Try.ntmps6
            go_wp2_with (first
              | (go_at_call 26; (with_reducible refine DA.mono ?_); rintro e w3 ⟨rfl, hb3⟩
                 have c0 := bx_cell hb3 0
                 have c1 := bx_cell hb3 1
                 have c2 := bx_cell hb3 2
                 have HC3 := Lib.hid hb3
                 have HB3 := Lib.hid (bx_bn hb3)
                 clear hb3)
              | (go_at_call 9; (with_reducible refine (DG w3).mono ?_); rintro e w4 ⟨rfl, hb4⟩
                 have d0 := bx_cell (bn HC3.out hb4) 0
                 have d1 := bx_cell (bn HC3.out hb4) 1
                 have d2 := bx_cell (bn HC3.out hb4) 2
                 have HC4 := Lib.hid (bn HC3.out hb4)
                 have HB4 := Lib.hid (bn HB3.out hb4)
                 clear hb4)
              | (go_at_call 24; (with_reducible refine (DC w4 HB4.out).mono ?_); rintro e w5 ⟨rfl, hb5⟩
                 have e0 := bx_cell (bn HC4.out hb5) 0
                 have e1 := bx_cell (bn HC4.out hb5) 1
                 have e2 := bx_cell (bn HC4.out hb5) 2
                 have HB5 := Lib.hid (bn HB4.out hb5)
                 clear hb5))
            go_ret
            exact ⟨rfl, HB5.out⟩
          · have h3 : (m : Int) < a1 := by omega
            clear hl1
            go_enter Try.func6, Try.ntmps6
            go_wp2_with (first
              | (go_at_call 26; (with_reducible refine DA.mono ?_); rintro e w3 ⟨rfl, hb3⟩
                 have c0 := bx_cell hb3 0
                 have c1 := bx_cell hb3 1
                 have c2 := bx_cell hb3 2
                 have HC3 := Lib.hid hb3
                 have HB3 := Lib.hid (bx_bn hb3)
                 clear hb3)
              | (go_at_call 9; (with_reducible refine (DG w3).mono ?_); rintro e w4 ⟨rfl, hb4⟩
                 have d0 := bx_cell (bn HC3.out hb4) 0
                 have d1 := bx_cell (bn HC3.out hb4) 1
                 have d2 := bx_cell (bn HC3.out hb4) 2
                 have HC4 := Lib.hid (bn HC3.out hb4)
                 have HB4 := Lib.hid (bn HB3.out hb4)
                 clear hb4)
              | (go_at_call 24; (with_reducible refine (DC w4 HB4.out).mono ?_); rintro e w5 ⟨rfl, hb5⟩
                 have e0 := bx_cell (bn HC4.out hb5) 0
                 have e1 := bx_cell (bn HC4.out hb5) 1
                 have e2 := bx_cell (bn HC4.out hb5) 2
                 have HB5 := Lib.hid (bn HB4.out hb5)
                 clear hb5))
            go_ret
            exact ⟨rfl, HB5.out⟩
      · obtain ⟨y, rfl⟩ : ∃ y : Nat, a1 = y := ⟨a1.toNat, by omega⟩
        obtain ⟨z, rfl⟩ : ∃ z : Nat, a2 = z := ⟨a2.toNat, by omega⟩
        have hym : y ≤ m := by omega
        have hzy : z ≤ y := by omega
        have hOS : OkS n s0 := by rw [hn]; exact hO.2.2
        obtain ⟨tu1, tu2⟩ := take_und (t := t0) hOS (show y ≤ s0.length by omega) hzy
        obtain ⟨eu1, eu2⟩ := usz_two hOS (show y ≤ s0.length by omega) hzy
        have hOy : OkA a0 (t0.take (usz n s0 y)) (s0.take y) := by have := hO.und (show y ≤ s0.length by omega); rwa [← hn] at this
        have hOz : OkA a0 (t0.take (usz n s0 z)) (s0.take z) := by have := hO.und (show z ≤ s0.length by omega); rwa [← hn] at this
        have hu1 := usz_le hOS y
        have hu2 := usz_le hOS z
        have D1 := fun (W : World) (hb : Below w.heap.size w W) => (hNw.on hb).undo (by omega) (by omega) hO (x := y) hym (n' := usz n s0 y) rfl
        have D3 := fun (W : World) (hb : Below w.heap.size w W) => (hNw.on hb).undo (by omega) (by omega) hO (x := z) (by omega) (n' := usz n s0 z) rfl
        have D2 := fun (b : Nat) (W : World) (A B : Option Addr) (k q : Nat) (h : Nw b W A (usz n s0 y) k (t0.take (usz n s0 y)) B y q (s0.take y)) => h.undo (by omega) (by omega) hOy (x := z) (by omega) (n' := usz n s0 z) (by rw [eu1])
        rw [tu1, tu2] at D2
        obtain ⟨u1, hu1'⟩ : ∃ u, u = usz n s0 y := ⟨_, rfl⟩
        obtain ⟨u2, hu2'⟩ : ∃ u, u = usz n s0 z := ⟨_, rfl⟩
        rw [← hu1'] at D1 D2 hu1 hOy
        rw [← hu2'] at D2 D3 hu2 hOz
        obtain ⟨T1, hT1⟩ : ∃ T, T = t0.take u1 := ⟨_, rfl⟩
        obtain ⟨T2, hT2⟩ : ∃ T, T = t0.take u2 := ⟨_, rfl⟩
        obtain ⟨S1, hS1⟩ : ∃ S, S = s0.take y := ⟨_, rfl⟩
        obtain ⟨S2, hS2⟩ : ∃ S, S = s0.take z := ⟨_, rfl⟩
        rw [← hT1, ← hS1] at D1 D2 hOy
        rw [← hT2, ← hS2] at D2 D3 hOz
        have g1 : ¬ ((z : Int) < 0) := by omega
        have g2 : ¬ ((y : Int) < (z : Int)) := by omega
        have g3 : ¬ ((m : Int) < (y : Int)) := by omega
        have ezz : (z == z) = true := by simp
        have HZ := Lib.hid (And.intro hOz (And.intro (show u2 ≤ 100000 by omega) (show z ≤ 100000 by omega)))
        clear hm0 hr0 hK0 hn0 hs0 hQ0 hn hm hk0 hNw hg hn63 hm63 hl hO hOS tu1 tu2 eu1 eu2 hOy hOz hu1 hu2 hu1' hu2' hT1 hT2 hS1 hS2 hv1 hv2
        go_enter Try.func6, Try.ntmps6
        go_wp2_with (first
          | (go_at_call 26; (with_reducible refine DA.mono ?_); rintro e w3 ⟨rfl, hb3⟩
             have c0 := bx_cell hb3 0
             have c1 := bx_cell hb3 1
             have c2 := bx_cell hb3 2
             have HC3 := Lib.hid hb3
             have HB3 := Lib.hid (bx_bn hb3)
             clear hb3)
          | (go_at_call 9; (with_reducible refine (DG w3).mono ?_); rintro e w4 ⟨rfl, hb4⟩
             have d0 := bx_cell (bn HC3.out hb4) 0
             have d1 := bx_cell (bn HC3.out hb4) 1
             have d2 := bx_cell (bn HC3.out hb4) 2
             have HC4 := Lib.hid (bn HC3.out hb4)
             have HB4 := Lib.hid (bn HB3.out hb4)
             clear hb4)
          | (go_at_call 24; (with_reducible refine (DC w4 HB4.out).mono ?_); rintro e w5 ⟨rfl, hb5⟩
             have e0 := bx_cell (bn HC4.out hb5) 0
             have e1 := bx_cell (bn HC4.out hb5) 1
             have e2 := bx_cell (bn HC4.out hb5) 2
             have HC5 := Lib.hid (bn HC4.out hb5)
             have HB5 := Lib.hid (bn HB4.out hb5)
             clear hb5)
          | (go_at_call 21; (with_reducible refine (D1 w5 HB5.out).mono ?_); rintro e w6 ⟨A6, k6, B6, q6, rfl, hN6, hb6⟩
             have hx6 := bx_on w6 (.cells #[.int .i64 a0, .slice A6 u1 k6, .slice B6 y q6] 24)
             have D2' := D2 _ _ A6 B6 k6 q6 (hN6.on hx6)
             have i0 := bx_cell (bn HC5.out (bn hb6 hx6)) 0
             have i1 := bx_cell (bn HC5.out (bn hb6 hx6)) 1
             have i2 := bx_cell (bn HC5.out (bn hb6 hx6)) 2
             have HC6 := Lib.hid (bn HC5.out (bn hb6 hx6))
             have HB6 := Lib.hid (bn HB5.out (bn hb6 hx6))
             clear hb6 hx6 hN6)
          | (go_at_call 21; (with_reducible refine D2'.mono ?_); rintro e w7 ⟨A7, k7, B7, q7, rfl, hN7, hb7⟩
             have hx7 := bx_on w7 (.cells #[.int .i64 a0, .slice A7 u2 k7, .slice B7 z q7] 24)
             have j0 := bx_cell (bn HC6.out (bn hb7 hx7)) 0
             have j1 := bx_cell (bn HC6.out (bn hb7 hx7)) 1
             have j2 := bx_cell (bn HC6.out (bn hb7 hx7)) 2
             have HN7 := Lib.hid (hN7.on hx7)
             have HB7 := Lib.hid (bn HB6.out (bn hb7 hx7))
             clear hb7 hx7 hN7)
          | (go_at_call 21; (with_reducible refine (D3 _ HB7.out).mono ?_); rintro e w8 ⟨A8, k8, B8, q8, rfl, hN8, hb8⟩
             have hx8 := bx_on w8 (.cells #[.int .i64 a0, .slice A8 u2 k8, .slice B8 z q8] 24)
             have hY := ((Bs.new w7 (.int .i64 a0) (.slice A7 u2 k7) (.slice B7 z q7)).on (bn hb8 hx8)).c
             obtain ⟨y0, y1, y2⟩ := hY
             have hN8' := hN8.on hx8
             have DS := Nw.same (v := a0) (HN7.out.on (bn hb8 hx8)) HZ.out.2.1 HZ.out.2.2 hN8'
             have HN8 := Lib.hid hN8'
             have HB8 := Lib.hid (bn HB7.out (bn hb8 hx8))
             clear hb8 hx8 hN8 hN8')
          | (go_at_call 16; (with_reducible refine DS.mono ?_); rintro e w9 ⟨rfl, hb9⟩
             have hZ := ((Bs.new w8 (.int .i64 a0) (.slice A8 u2 k8) (.slice B8 z q8)).on hb9).c
             obtain ⟨z0, z1, z2⟩ := hZ
             have DZ := Nw.check (v := a0) (HN8.out.on hb9) HZ.out.2.1 HZ.out.2.2 HZ.out.1
             have HB9 := Lib.hid (bn HB8.out hb9)
             clear hb9)
          | (go_at_call 23; (with_reducible refine DZ.mono ?_); rintro e w10 ⟨rfl, hb10⟩
             have HB10 := Lib.hid (bn HB9.out hb10)
             clear hb10))
        go_ret
        exact ⟨rfl, HB10.out⟩
    · rw [aE_no hO] at DC
      clear hm0 hr0 hK0 hn0 hs0 hQ0 hn hm hk0 hNw hg hn63 hm63 hO
      go_enter Try.func6, Try.ntmps6
      go_wp2_with (first
        | (go_at_call 26; (with_reducible refine DA.mono ?_); rintro e w3 ⟨rfl, hb3⟩
           have c0 := bx_cell hb3 0
           have c1 := bx_cell hb3 1
           have c2 := bx_cell hb3 2
           have HC3 := Lib.hid hb3
           have HB3 := Lib.hid (bx_bn hb3)
           clear hb3)
        | (go_at_call 9; (with_reducible refine (DG w3).mono ?_); rintro e w4 ⟨rfl, hb4⟩
           have d0 := bx_cell (bn HC3.out hb4) 0
           have d1 := bx_cell (bn HC3.out hb4) 1
           have d2 := bx_cell (bn HC3.out hb4) 2
           have HB4 := Lib.hid (bn HB3.out hb4)
           clear hb4)
        | (go_at_call 24; (with_reducible refine (DC w4 HB4.out).mono ?_); rintro e w5 ⟨rfl, hb5⟩
           have HB5 := Lib.hid (bn HB4.out hb5)
           clear hb5))
      go_ret
      exact ⟨rfl, HB5.out⟩

set_option maxRecDepth 100000 in
theorem lifted (os : Os) (started : os.Started) (H : Type) (enc : TypeId × Value → H) :
    ReturnsInHanded {} Try.checked os 6 .any (Rows.assignTwiceSpec.pre6 enc Try.prog Try.f6 Rows.assignTwiceRow.domain false) (Rows.assignTwiceSpec.post enc Try.prog Try.f6 false true false false) := by
  refine returnsInHanded_of_change (C := Try.checked) own started (by kernel_rfl) Try.func6
    (ChangeSpec.witness6 (enc := enc) (C := Try.checked) false ⟨#[], #[.agg #[.int .i64 0, .slice none 0 0, .slice none 0 0], .int .i64 0, .int .i64 0], []⟩ 12 (by kernel_rfl) (by kernel_rfl) (by kernel_rfl) (by kernel_rfl)) ?_
  intro W base args ds gs before hval0 hW hcnd _
  have hval : ∀ (j : Nat) t v, Try.f6.params[j]? = some t → args[j]? = some v → Value.okWide Try.prog W .any base t v := hval0
  have hW' := hW
  have hlt : ∀ x ∈ before, x.block < W.heap.size := fun x hx => by simpa using hW'.lt x hx
  obtain ⟨p, q, hA0, hV, rfl, hfz, hnd⟩ := hW
  have hA : DataW.TrodAll enc Try.prog W 0 (fun _ => true) true Try.f6.params.toList args.toList ds p := hA0
  rw [Try.params6] at hA hval
  obtain ⟨v0, vs0, d0, ds0, b0, q0, hargs, rfl, rfl, h0, r0⟩ := trodAll_cons hA
  obtain ⟨v1, vs1, d1, ds1, b1, q1, rfl, rfl, rfl, h1, r1⟩ := trodAll_cons r0
  obtain ⟨v2, vs2, d2, ds2, b2, q2, rfl, rfl, rfl, h2, r2⟩ := trodAll_cons r1
  obtain ⟨rfl, rfl, rfl⟩ := trodAll_nil r2
  obtain rfl : args = #[v0, v1, v2] := by cases args; simp_all
  obtain ⟨rfl, rfl⟩ := trodVars_none hV
  obtain ⟨a0, A0, t0, k0, B0, s0, q0, rfl, w0, hm0, hK0, hr0, hn0, hQ0, hs0⟩ := open_as (hval 0 24 v0 rfl rfl) h0
  obtain ⟨a1, rfl, rfl, rfl, w1⟩ := open_int Try.underlying3 (hval 1 3 v1 rfl rfl) h1
  obtain ⟨a2, rfl, rfl, rfl, w2⟩ := open_int Try.underlying3 (hval 2 3 v2 rfl rfl) h2
  have hlo : laidOutB Try.prog = true := by kernel_rfl
  clear hA0 hval0
  simp only [List.append_nil] at hW' hlt
  refine (walk a0 A0 t0 k0 B0 s0 q0 a1 a2 W w0 hm0 hr0 hK0 hn0 hs0 hQ0 w1 w2).mono fun e W' ⟨he, hb⟩ => ?_
  subst he
  have hback := (trodAll_cons_mk (arg_back (W' := W') hlo (by kernel_rfl) (of_decide_eq_true (by kernel_rfl)) h0 hb (fun x hx => hlt x (by simp [hx]))) (trodAll_cons_mk (shut_int (enc := enc) (w := W') (base := 0) (spare := fun b => decide (b < W.heap.size)) (held := true) Try.underlying3 w1) (trodAll_cons_mk (shut_int (enc := enc) (w := W') (base := 0) (spare := fun b => decide (b < W.heap.size)) (held := true) Try.underlying3 w2) trodAll_mk0)))
  simp only [List.append_nil, List.nil_append] at hback
  exact ⟨_, rfl, law_post hW' (trodAll_cons_mk (shut_bool Try.underlying4 _) trodAll_mk0) hback rfl hb⟩

theorem over : Rows.assignTwiceRow.holds Try.pinned (OpenSpec.ofChange Rows.assignTwiceSpec) :=
  OpenClaim.holds_of_wide 6 Try.f6 rfl rfl rfl rfl rfl rfl rfl ⟨rfl, rfl, rfl, rfl, rfl⟩ rfl rfl rfl rfl rfl (by kernel_rfl) Try.func6 (by kernel_rfl)
    (of_decide_eq_true (by kernel_rfl)) (by unfold Func.isWrapper; first | (rw [if_pos (by decide +kernel)]; kernel_rfl) | (rw [if_neg (by decide +kernel)]; exact ⟨rfl, rfl⟩))
    (fun os started H enc _ => lifted os started H enc)

theorem proved : Rows.AssignTwiceSaid :=
  over
end Go.Proofs.Ytcefphdabomlpaa.assignTwice
