/- For all circuits that are not great, ternary states and inputs of them (at most 100 bytes) and others: where both are right and the first cover the others, the values of all variables, and the next state, cover theirs. No conditions. -/
import Derived.Test.YthpifibemekmcaaTernCovKit
namespace Go.Proofs.Ythpifibemekmcaa.ternaryCovers
open Go.ChangeShapes Go.WideShapes Go.ChangeAt Go.RowKit
set_option linter.unusedVariables false
set_option linter.unusedSimpArgs false


theorem own : ownKnob Try.prog.godebug = none := by kernel_rfl

set_option maxRecDepth 100000 in
set_option maxHeartbeats 4000000 in
theorem walk (c0 : Cr) (p0 : Pl) (A1 : Option Addr) (n1 k1 : Nat) (f1 : Nat → Int) (A2 : Option Addr) (n2 k2 : Nat) (f2 : Nat → Int) (A3 : Option Addr) (n3 k3 : Nat) (f3 : Nat → Int) (A4 : Option Addr) (n4 k4 : Nat) (f4 : Nat → Int) (w : World) (hm0 : Mem w w.heap.size c0 p0) (hN0 : Nils c0 p0) (hv0 : Vals c0) (hC0 : Caps c0 p0) (hm1 : TrAt w w.heap.size A1 n1 f1) (hN1 : A1 = none → n1 = 0 ∧ k1 = 0) (hC1 : n1 ≤ k1 ∧ k1 ≤ maxLen) (hr1 : ∀ j, j < n1 → 0 ≤ f1 j ∧ f1 j ≤ 255) (hm2 : TrAt w w.heap.size A2 n2 f2) (hN2 : A2 = none → n2 = 0 ∧ k2 = 0) (hC2 : n2 ≤ k2 ∧ k2 ≤ maxLen) (hr2 : ∀ j, j < n2 → 0 ≤ f2 j ∧ f2 j ≤ 255) (hm3 : TrAt w w.heap.size A3 n3 f3) (hN3 : A3 = none → n3 = 0 ∧ k3 = 0) (hC3 : n3 ≤ k3 ∧ k3 ≤ maxLen) (hr3 : ∀ j, j < n3 → 0 ≤ f3 j ∧ f3 j ≤ 255) (hm4 : TrAt w w.heap.size A4 n4 f4) (hN4 : A4 = none → n4 = 0 ∧ k4 = 0) (hC4 : n4 ≤ k4 ∧ k4 ≤ maxLen) (hr4 : ∀ j, j < n4 → 0 ≤ f4 j ∧ f4 j ≤ 255) :
    Calls Try.prog 6 #[cv c0 p0, .slice A1 n1 k1, .slice A2 n2 k2, .slice A3 n3 k3, .slice A4 n4 k4] w fun e w' => e = .returned (.bool true) ∧ Below w.heap.size w w' := by
  cases hg : c0.gr
  case true =>
    go_enter Try.func6, Try.ntmps6
    go_wp2_with (first
      | (go_at_call 21; refine (rGreat_any c0 p0 _).mono ?_; rintro e u1 ⟨rfl, hb1⟩; obtain ⟨hc1, hf1⟩ := bcell hb1; have hz1 : w.heap.size < u1.heap.size := (by have := hb1.size; (try simp at this); omega); have hB1 : Below w.heap.size w u1 := Below.step (by go_grown) (by go_size) hb1)
      | (go_at_call 20; (with_reducible refine (alive5_any u1).mono ?_); rintro e uz ⟨rfl, hbz⟩; have hBz : Below w.heap.size w uz := Below.step hB1 hB1.size hbz))
    go_ret
    exact ⟨rfl, hBz⟩
  have hgr := Cr.gr_no hg
  have hs : Sm c0 := hv0.sm (by omega) (by omega) (by omega) (by omega)
  by_cases h1 : 100 < n1
  · clear hgr
    go_enter Try.func6, Try.ntmps6
    go_wp2_with (first
      | (go_at_call 21; refine (rGreat_any c0 p0 _).mono ?_; rintro e u1 ⟨rfl, hb1⟩; obtain ⟨hc1, hf1⟩ := bcell hb1; have hz1 : w.heap.size < u1.heap.size := (by have := hb1.size; (try simp at this); omega); have hB1 : Below w.heap.size w u1 := Below.step (by go_grown) (by go_size) hb1)
      | (go_at_call 20; (with_reducible refine (alive5_any u1).mono ?_); rintro e uz ⟨rfl, hbz⟩; have hBz : Below w.heap.size w uz := Below.step hB1 hB1.size hbz))
    go_ret
    exact ⟨rfl, hBz⟩
  by_cases h2 : 100 < n2
  · clear hgr
    go_enter Try.func6, Try.ntmps6
    go_wp2_with (first
      | (go_at_call 21; refine (rGreat_any c0 p0 _).mono ?_; rintro e u1 ⟨rfl, hb1⟩; obtain ⟨hc1, hf1⟩ := bcell hb1; have hz1 : w.heap.size < u1.heap.size := (by have := hb1.size; (try simp at this); omega); have hB1 : Below w.heap.size w u1 := Below.step (by go_grown) (by go_size) hb1)
      | (go_at_call 20; (with_reducible refine (alive5_any u1).mono ?_); rintro e uz ⟨rfl, hbz⟩; have hBz : Below w.heap.size w uz := Below.step hB1 hB1.size hbz))
    go_ret
    exact ⟨rfl, hBz⟩
  have g0 : TArg w w.heap.size c0 p0 A1 n1 k1 f1 A2 n2 k2 f2 := ⟨hm0, hs, hm1, hm2, hN1, hN2, by omega, by omega, hr1, hr2⟩
  by_cases hk0 : c0.tsk n1 n2 f1 f2 = 0
  case neg =>
    have t0 : (c0.tsk n1 n2 f1 f2 != 0) = true := by simpa [bne] using hk0
    clear hgr hk0
    go_enter Try.func6, Try.ntmps6
    go_wp2_with (first
      | (go_at_call 21; refine (rGreat_any c0 p0 _).mono ?_; rintro e u1 ⟨rfl, hb1⟩; obtain ⟨hc1, hf1⟩ := bcell hb1; have hz1 : w.heap.size < u1.heap.size := (by have := hb1.size; (try simp at this); omega); have hB1 : Below w.heap.size w u1 := Below.step (by go_grown) (by go_size) hb1)
      | (go_at_call 30; (with_reducible refine (tAsked_any u1 (g0.to hB1 hB1.size)).mono ?_); rintro e u2 ⟨rfl, hb2⟩; obtain ⟨hc2, hf2⟩ := bcell hb2; have hs2 := hb2.size; (try rw [World.size_alloc] at hs2); have hz2 : w.heap.size < u2.heap.size := (by omega); have hB2 : Below w.heap.size w u2 := Below.step (by first | assumption | go_grown) (by first | exact hB1.size | go_size) hb2)
      | (go_at_call 20; (with_reducible refine (alive5_any u2).mono ?_); rintro e uz ⟨rfl, hbz⟩; have hBz : Below w.heap.size w uz := Below.step hB2 hB2.size hbz))
    go_ret
    exact ⟨rfl, hBz⟩
  obtain ⟨hc, hns, hni, ht1, ht2⟩ := Cr.tsk_zero hk0
  have HK0 := Lib.hid hk0
  have gl := hs.nl
  have hci := Cr.chk_i (c := c0) (by simpa using hc) hs
  have hfn := Cr.fg_bd hc
  by_cases hne : n3 ≠ c0.nl ∨ (n4 : Int) ≠ c0.i
  · clear hgr hk0 hc hns hni
    go_enter Try.func6, Try.ntmps6
    go_wp2_with (first
      | (go_at_call 21; refine (rGreat_any c0 p0 _).mono ?_; rintro e u1 ⟨rfl, hb1⟩; obtain ⟨hc1, hf1⟩ := bcell hb1; have hz1 : w.heap.size < u1.heap.size := (by have := hb1.size; (try simp at this); omega); have hB1 : Below w.heap.size w u1 := Below.step (by go_grown) (by go_size) hb1)
      | (go_at_call 30; (with_reducible refine (tAsked_ok HK0.out u1 (g0.to hB1 hB1.size)).mono ?_); rintro e u2 ⟨rfl, hb2⟩; obtain ⟨hc2, hf2⟩ := bcell hb2; have hs2 := hb2.size; (try rw [World.size_alloc] at hs2); have hz2 : w.heap.size < u2.heap.size := (by omega); have hB2 : Below w.heap.size w u2 := Below.step (by first | assumption | go_grown) (by first | exact hB1.size | go_size) hb2)
      | (go_at_call 30; (with_reducible refine (tAsked_len A3 A4 n3 k3 n4 k4 hne u2 (hm0.to hB2 hB2.size) hs).mono ?_); rintro e u3 ⟨⟨x, rfl, hx⟩, hb3⟩; obtain ⟨hc3, hf3⟩ := bcell hb3; have hs3 := hb3.size; (try rw [World.size_alloc] at hs3); have hz3 : w.heap.size < u3.heap.size := (by omega); have hB3 : Below w.heap.size w u3 := Below.step (by first | assumption | go_grown) (by first | exact hB2.size | go_size) hb3)
      | (go_at_call 20; (with_reducible refine (alive5_any u3).mono ?_); rintro e uz ⟨rfl, hbz⟩; have hBz : Below w.heap.size w uz := Below.step hB3 hB3.size hbz))
    go_ret
    exact ⟨rfl, hBz⟩
  have q3 : n3 = c0.nl := Classical.byContradiction fun h => hne (Or.inl h)
  have q4 : (n4 : Int) = c0.i := Classical.byContradiction fun h => hne (Or.inr h)
  clear hne
  obtain rfl : n3 = n1 := by omega
  obtain rfl : n4 = n2 := by omega
  have g1 : TArg w w.heap.size c0 p0 A3 n3 k3 f3 A4 n4 k4 f4 := ⟨hm0, hs, hm3, hm4, hN3, hN4, by omega, by omega, hr3, hr4⟩
  by_cases hk1 : c0.tsk n3 n4 f3 f4 = 0
  case neg =>
    have t0 : (c0.tsk n3 n4 f3 f4 != 0) = true := by simpa [bne] using hk1
    clear hgr hk0 hk1 hc hns hni q3 q4
    go_enter Try.func6, Try.ntmps6
    go_wp2_with (first
      | (go_at_call 21; refine (rGreat_any c0 p0 _).mono ?_; rintro e u1 ⟨rfl, hb1⟩; obtain ⟨hc1, hf1⟩ := bcell hb1; have hz1 : w.heap.size < u1.heap.size := (by have := hb1.size; (try simp at this); omega); have hB1 : Below w.heap.size w u1 := Below.step (by go_grown) (by go_size) hb1)
      | (go_at_call 30; (with_reducible refine (tAsked_ok HK0.out u1 (g0.to hB1 hB1.size)).mono ?_); rintro e u2 ⟨rfl, hb2⟩; obtain ⟨hc2, hf2⟩ := bcell hb2; have hs2 := hb2.size; (try rw [World.size_alloc] at hs2); have hz2 : w.heap.size < u2.heap.size := (by omega); have hB2 : Below w.heap.size w u2 := Below.step (by first | assumption | go_grown) (by first | exact hB1.size | go_size) hb2)
      | (go_at_call 30; (with_reducible refine (tAsked_any u2 (g1.to hB2 hB2.size)).mono ?_); rintro e u3 ⟨rfl, hb3⟩; obtain ⟨hc3, hf3⟩ := bcell hb3; have hs3 := hb3.size; (try rw [World.size_alloc] at hs3); have hz3 : w.heap.size < u3.heap.size := (by omega); have hB3 : Below w.heap.size w u3 := Below.step (by first | assumption | go_grown) (by first | exact hB2.size | go_size) hb3)
      | (go_at_call 20; (with_reducible refine (alive5_any u3).mono ?_); rintro e uz ⟨rfl, hbz⟩; have hBz : Below w.heap.size w uz := Below.step hB3 hB3.size hbz))
    go_ret
    exact ⟨rfl, hBz⟩
  obtain ⟨z1, z2, z3, ht3, ht4⟩ := Cr.tsk_zero hk1
  have HK1 := Lib.hid hk1
  have T1 := allTb_at ht1 hr1
  have T2 := allTb_at ht2 hr2
  have T3 := allTb_at ht3 hr3
  have T4 := allTb_at ht4 hr4
  have I1 := Cr.tf_isT0 hk0 hr1 hr2
  have I2 := Cr.tf_isT0 hk1 hr3 hr4
  have J1 : ∀ v, isT (c0.tnv f1 f2 v) := Cr.tnv_isT (fun j hj => T1 j (by omega)) (fun j hj => T2 j (by omega))
  have J2 : ∀ v, isT (c0.tnv f3 f4 v) := Cr.tnv_isT (fun j hj => T3 j (by omega)) (fun j hj => T4 j (by omega))
  obtain ⟨x, ex⟩ : ∃ x, covL f1 f3 n3 = x := ⟨_, rfl⟩
  obtain ⟨y, ey⟩ : ∃ y, covL f2 f4 n4 = y := ⟨_, rfl⟩
  have E1 := Lib.hid (fun (W : World) (hW : Below w.heap.size w W) => tCov_at ex (by omega) T1 T3 A1 A3 k1 k3 w.heap.size W (hm1.keep hW) (hm3.keep hW))
  have E2 := Lib.hid (fun (W : World) (hW : Below w.heap.size w W) => tCov_at ey (by omega) T2 T4 A2 A4 k2 k4 w.heap.size W (hm2.keep hW) (hm4.keep hW))
  have HC := Lib.hid (show x = true → y = true → covL (c0.tf f1 f2) (c0.tf f3 f4) (c0.fg + c0.na) = true ∧ covL (c0.tnv f1 f2) (c0.tnv f3 f4) c0.nl = true from fun a b => by
    subst a b
    have q1 := covL_at ex
    have q2 := covL_at ey
    exact ⟨covL_yes fun j _ => Cr.tf_cov (fun j hj => T3 j (by omega)) (fun j hj => T4 j (by omega)) (fun j hj => q1 j (by omega)) (fun j hj => q2 j (by omega)) j, covL_yes fun j _ => Cr.tnv_cov (fun j hj => T3 j (by omega)) (fun j hj => T4 j (by omega)) (fun j hj => q1 j (by omega)) (fun j hj => q2 j (by omega)) j⟩)
  have HT := Lib.hid (And.intro (And.intro I1 I2) (And.intro J1 J2))
  clear z1 z2 z3 hgr hk0 hk1 hc hns hni q3 q4 ex ey T1 T2 T3 T4 I1 I2 J1 J2 ht1 ht2 ht3 ht4
  cases x
  case false =>
    go_enter Try.func6, Try.ntmps6
    go_wp2_with (first
      | (go_at_call 21; refine (rGreat_any c0 p0 _).mono ?_; rintro e u1 ⟨rfl, hb1⟩; obtain ⟨hc1, hf1⟩ := bcell hb1; have hz1 : w.heap.size < u1.heap.size := (by have := hb1.size; (try simp at this); omega); have hB1 : Below w.heap.size w u1 := Below.step (by go_grown) (by go_size) hb1)
      | (go_at_call 30; (with_reducible refine (tAsked_ok HK0.out u1 (g0.to hB1 hB1.size)).mono ?_); rintro e u2 ⟨rfl, hb2⟩; obtain ⟨hc2, hf2⟩ := bcell hb2; have hs2 := hb2.size; (try rw [World.size_alloc] at hs2); have hz2 : w.heap.size < u2.heap.size := (by omega); have hB2 : Below w.heap.size w u2 := Below.step (by first | assumption | go_grown) (by first | exact hB1.size | go_size) hb2)
      | (go_at_call 30; (with_reducible refine (tAsked_ok HK1.out u2 (g1.to hB2 hB2.size)).mono ?_); rintro e u3 ⟨rfl, hb3⟩; obtain ⟨hc3, hf3⟩ := bcell hb3; have hs3 := hb3.size; (try rw [World.size_alloc] at hs3); have hz3 : w.heap.size < u3.heap.size := (by omega); have hB3 : Below w.heap.size w u3 := Below.step (by first | assumption | go_grown) (by first | exact hB2.size | go_size) hb3)
      | (go_at_call 13; (with_reducible refine (E1.out u3 hB3).mono ?_); rintro e wa ⟨rfl, rfl⟩)
      | (go_at_call 13; (with_reducible refine (E2.out u3 hB3).mono ?_); rintro e wa ⟨rfl, rfl⟩)
      | (go_at_call 16; (with_reducible refine (tAll_yes HK0.out u3 (g0.to hB3 hB3.size)).mono ?_); rintro e u4 ⟨A5, k5, rfl, hi5, hb4⟩; obtain ⟨hc4, hf4⟩ := bcell hb4; have hs4 := hb4.size; (try rw [World.size_alloc] at hs4); have hz4 : w.heap.size < u4.heap.size := (by omega); have hB4 : Below w.heap.size w u4 := Below.step (by first | assumption | go_grown) (by first | exact hB3.size | go_size) hb4)
      | (go_at_call 16; (with_reducible refine (tAll_yes HK1.out u4 (g1.to hB4 hB4.size)).mono ?_); rintro e u5 ⟨A6, k6, rfl, hi6, hb5⟩; obtain ⟨hc5, hf5⟩ := bcell hb5; have hs5 := hb5.size; (try rw [World.size_alloc] at hs5); have hz5 : w.heap.size < u5.heap.size := (by omega); have hB5 : Below w.heap.size w u5 := Below.step (by first | assumption | go_grown) (by first | exact hB4.size | go_size) hb5; have hi5 := (hi5.keep hb5).more hb5.size)
      | (go_at_call 17; (with_reducible refine (tNext_yes HK0.out u5 (g0.to hB5 hB5.size)).mono ?_); rintro e u6 ⟨A7, k7, rfl, hi7, hb6⟩; obtain ⟨hc6, hf6⟩ := bcell hb6; have hs6 := hb6.size; (try rw [World.size_alloc] at hs6); have hz6 : w.heap.size < u6.heap.size := (by omega); have hB6 : Below w.heap.size w u6 := Below.step (by first | assumption | go_grown) (by first | exact hB5.size | go_size) hb6; have hi5 := (hi5.keep hb6).more hb6.size; have hi6 := (hi6.keep hb6).more hb6.size)
      | (go_at_call 17; (with_reducible refine (tNext_yes HK1.out u6 (g1.to hB6 hB6.size)).mono ?_); rintro e u7 ⟨A8, k8, rfl, hi8, hb7⟩; obtain ⟨hc7, hf7⟩ := bcell hb7; have hs7 := hb7.size; (try rw [World.size_alloc] at hs7); have hz7 : w.heap.size < u7.heap.size := (by omega); have hB7 : Below w.heap.size w u7 := Below.step (by first | assumption | go_grown) (by first | exact hB6.size | go_size) hb7; have hi5 := (hi5.keep hb7).more hb7.size; have hi6 := (hi6.keep hb7).more hb7.size; have hi7 := (hi7.keep hb7).more hb7.size)
      | (go_at_call 20; (with_reducible refine (alive5_any u7).mono ?_); rintro e uz ⟨rfl, hbz⟩; have hBz : Below w.heap.size w uz := Below.step hB7 hB7.size hbz))
    go_ret
    exact ⟨rfl, hBz⟩
  case true =>
    cases y
    case false =>
      go_enter Try.func6, Try.ntmps6
      go_wp2_with (first
        | (go_at_call 21; refine (rGreat_any c0 p0 _).mono ?_; rintro e u1 ⟨rfl, hb1⟩; obtain ⟨hc1, hf1⟩ := bcell hb1; have hz1 : w.heap.size < u1.heap.size := (by have := hb1.size; (try simp at this); omega); have hB1 : Below w.heap.size w u1 := Below.step (by go_grown) (by go_size) hb1)
        | (go_at_call 30; (with_reducible refine (tAsked_ok HK0.out u1 (g0.to hB1 hB1.size)).mono ?_); rintro e u2 ⟨rfl, hb2⟩; obtain ⟨hc2, hf2⟩ := bcell hb2; have hs2 := hb2.size; (try rw [World.size_alloc] at hs2); have hz2 : w.heap.size < u2.heap.size := (by omega); have hB2 : Below w.heap.size w u2 := Below.step (by first | assumption | go_grown) (by first | exact hB1.size | go_size) hb2)
        | (go_at_call 30; (with_reducible refine (tAsked_ok HK1.out u2 (g1.to hB2 hB2.size)).mono ?_); rintro e u3 ⟨rfl, hb3⟩; obtain ⟨hc3, hf3⟩ := bcell hb3; have hs3 := hb3.size; (try rw [World.size_alloc] at hs3); have hz3 : w.heap.size < u3.heap.size := (by omega); have hB3 : Below w.heap.size w u3 := Below.step (by first | assumption | go_grown) (by first | exact hB2.size | go_size) hb3)
        | (go_at_call 13; (with_reducible refine (E1.out u3 hB3).mono ?_); rintro e wa ⟨rfl, rfl⟩)
        | (go_at_call 13; (with_reducible refine (E2.out u3 hB3).mono ?_); rintro e wa ⟨rfl, rfl⟩)
        | (go_at_call 16; (with_reducible refine (tAll_yes HK0.out u3 (g0.to hB3 hB3.size)).mono ?_); rintro e u4 ⟨A5, k5, rfl, hi5, hb4⟩; obtain ⟨hc4, hf4⟩ := bcell hb4; have hs4 := hb4.size; (try rw [World.size_alloc] at hs4); have hz4 : w.heap.size < u4.heap.size := (by omega); have hB4 : Below w.heap.size w u4 := Below.step (by first | assumption | go_grown) (by first | exact hB3.size | go_size) hb4)
        | (go_at_call 16; (with_reducible refine (tAll_yes HK1.out u4 (g1.to hB4 hB4.size)).mono ?_); rintro e u5 ⟨A6, k6, rfl, hi6, hb5⟩; obtain ⟨hc5, hf5⟩ := bcell hb5; have hs5 := hb5.size; (try rw [World.size_alloc] at hs5); have hz5 : w.heap.size < u5.heap.size := (by omega); have hB5 : Below w.heap.size w u5 := Below.step (by first | assumption | go_grown) (by first | exact hB4.size | go_size) hb5; have hi5 := (hi5.keep hb5).more hb5.size)
        | (go_at_call 17; (with_reducible refine (tNext_yes HK0.out u5 (g0.to hB5 hB5.size)).mono ?_); rintro e u6 ⟨A7, k7, rfl, hi7, hb6⟩; obtain ⟨hc6, hf6⟩ := bcell hb6; have hs6 := hb6.size; (try rw [World.size_alloc] at hs6); have hz6 : w.heap.size < u6.heap.size := (by omega); have hB6 : Below w.heap.size w u6 := Below.step (by first | assumption | go_grown) (by first | exact hB5.size | go_size) hb6; have hi5 := (hi5.keep hb6).more hb6.size; have hi6 := (hi6.keep hb6).more hb6.size)
        | (go_at_call 17; (with_reducible refine (tNext_yes HK1.out u6 (g1.to hB6 hB6.size)).mono ?_); rintro e u7 ⟨A8, k8, rfl, hi8, hb7⟩; obtain ⟨hc7, hf7⟩ := bcell hb7; have hs7 := hb7.size; (try rw [World.size_alloc] at hs7); have hz7 : w.heap.size < u7.heap.size := (by omega); have hB7 : Below w.heap.size w u7 := Below.step (by first | assumption | go_grown) (by first | exact hB6.size | go_size) hb7; have hi5 := (hi5.keep hb7).more hb7.size; have hi6 := (hi6.keep hb7).more hb7.size; have hi7 := (hi7.keep hb7).more hb7.size)
        | (go_at_call 20; (with_reducible refine (alive5_any u7).mono ?_); rintro e uz ⟨rfl, hbz⟩; have hBz : Below w.heap.size w uz := Below.step hB7 hB7.size hbz))
      go_ret
      exact ⟨rfl, hBz⟩
    case true =>
      have hcc := HC.out rfl rfl
      have E3 := Lib.hid (fun (A A' : Option Addr) (k k' : Nat) (W : World) (hA : TrAt W W.heap.size A (c0.fg + c0.na) (c0.tf f1 f2)) (hA' : TrAt W W.heap.size A' (c0.fg + c0.na) (c0.tf f3 f4)) => tCov_at hcc.1 (by omega) (fun j _ => HT.out.1.1 j) (fun j _ => HT.out.1.2 j) A A' k k' W.heap.size W hA hA')
      have E4 := Lib.hid (fun (A A' : Option Addr) (k k' : Nat) (W : World) (hA : TrAt W W.heap.size A c0.nl (c0.tnv f1 f2)) (hA' : TrAt W W.heap.size A' c0.nl (c0.tnv f3 f4)) => tCov_at hcc.2 (by omega) (fun j _ => HT.out.2.1 j) (fun j _ => HT.out.2.2 j) A A' k k' W.heap.size W hA hA')
      clear hcc
      go_enter Try.func6, Try.ntmps6
      go_wp2_with (first
        | (go_at_call 21; refine (rGreat_any c0 p0 _).mono ?_; rintro e u1 ⟨rfl, hb1⟩; obtain ⟨hc1, hf1⟩ := bcell hb1; have hz1 : w.heap.size < u1.heap.size := (by have := hb1.size; (try simp at this); omega); have hB1 : Below w.heap.size w u1 := Below.step (by go_grown) (by go_size) hb1)
        | (go_at_call 30; (with_reducible refine (tAsked_ok HK0.out u1 (g0.to hB1 hB1.size)).mono ?_); rintro e u2 ⟨rfl, hb2⟩; obtain ⟨hc2, hf2⟩ := bcell hb2; have hs2 := hb2.size; (try rw [World.size_alloc] at hs2); have hz2 : w.heap.size < u2.heap.size := (by omega); have hB2 : Below w.heap.size w u2 := Below.step (by first | assumption | go_grown) (by first | exact hB1.size | go_size) hb2)
        | (go_at_call 30; (with_reducible refine (tAsked_ok HK1.out u2 (g1.to hB2 hB2.size)).mono ?_); rintro e u3 ⟨rfl, hb3⟩; obtain ⟨hc3, hf3⟩ := bcell hb3; have hs3 := hb3.size; (try rw [World.size_alloc] at hs3); have hz3 : w.heap.size < u3.heap.size := (by omega); have hB3 : Below w.heap.size w u3 := Below.step (by first | assumption | go_grown) (by first | exact hB2.size | go_size) hb3)
        | (go_at_call 13; (with_reducible refine (E1.out u3 hB3).mono ?_); rintro e wa ⟨rfl, rfl⟩)
        | (go_at_call 13; (with_reducible refine (E2.out u3 hB3).mono ?_); rintro e wa ⟨rfl, rfl⟩)
        | (go_at_call 16; (with_reducible refine (tAll_yes HK0.out u3 (g0.to hB3 hB3.size)).mono ?_); rintro e u4 ⟨A5, k5, rfl, hi5, hb4⟩; obtain ⟨hc4, hf4⟩ := bcell hb4; have hs4 := hb4.size; (try rw [World.size_alloc] at hs4); have hz4 : w.heap.size < u4.heap.size := (by omega); have hB4 : Below w.heap.size w u4 := Below.step (by first | assumption | go_grown) (by first | exact hB3.size | go_size) hb4)
        | (go_at_call 16; (with_reducible refine (tAll_yes HK1.out u4 (g1.to hB4 hB4.size)).mono ?_); rintro e u5 ⟨A6, k6, rfl, hi6, hb5⟩; obtain ⟨hc5, hf5⟩ := bcell hb5; have hs5 := hb5.size; (try rw [World.size_alloc] at hs5); have hz5 : w.heap.size < u5.heap.size := (by omega); have hB5 : Below w.heap.size w u5 := Below.step (by first | assumption | go_grown) (by first | exact hB4.size | go_size) hb5; have hi5 := (hi5.keep hb5).more hb5.size)
        | (go_at_call 17; (with_reducible refine (tNext_yes HK0.out u5 (g0.to hB5 hB5.size)).mono ?_); rintro e u6 ⟨A7, k7, rfl, hi7, hb6⟩; obtain ⟨hc6, hf6⟩ := bcell hb6; have hs6 := hb6.size; (try rw [World.size_alloc] at hs6); have hz6 : w.heap.size < u6.heap.size := (by omega); have hB6 : Below w.heap.size w u6 := Below.step (by first | assumption | go_grown) (by first | exact hB5.size | go_size) hb6; have hi5 := (hi5.keep hb6).more hb6.size; have hi6 := (hi6.keep hb6).more hb6.size)
        | (go_at_call 17; (with_reducible refine (tNext_yes HK1.out u6 (g1.to hB6 hB6.size)).mono ?_); rintro e u7 ⟨A8, k8, rfl, hi8, hb7⟩; obtain ⟨hc7, hf7⟩ := bcell hb7; have hs7 := hb7.size; (try rw [World.size_alloc] at hs7); have hz7 : w.heap.size < u7.heap.size := (by omega); have hB7 : Below w.heap.size w u7 := Below.step (by first | assumption | go_grown) (by first | exact hB6.size | go_size) hb7; have hi5 := (hi5.keep hb7).more hb7.size; have hi6 := (hi6.keep hb7).more hb7.size; have hi7 := (hi7.keep hb7).more hb7.size)
        | (go_at_call 13; (with_reducible refine (E3.out A5 A6 k5 k6 u7 hi5 hi6).mono ?_); rintro e wa ⟨rfl, rfl⟩)
        | (go_at_call 13; (with_reducible refine (E4.out A7 A8 k7 k8 u7 hi7 hi8).mono ?_); rintro e wa ⟨rfl, rfl⟩)
        | (go_at_call 20; (with_reducible refine (alive5_any u7).mono ?_); rintro e uz ⟨rfl, hbz⟩; have hBz : Below w.heap.size w uz := Below.step hB7 hB7.size hbz))
      go_ret
      exact ⟨rfl, hBz⟩

set_option maxRecDepth 100000 in
theorem lifted (os : Os) (started : os.Started) (H : Type) (enc : TypeId × Value → H) :
    ReturnsInHanded {} Try.checked os 6 .any (Rows.ternaryCoversSpec.pre6 enc Try.prog Try.f6 Rows.ternaryCoversRow.domain false) (Rows.ternaryCoversSpec.post enc Try.prog Try.f6 false true false false) := by
  refine returnsInHanded_of_change (C := Try.checked) own started (by kernel_rfl) Try.func6
    (ChangeSpec.witness6 (enc := enc) (C := Try.checked) false ⟨#[], #[.agg #[.int .i64 0, .slice none 0 0, .slice none 0 0, .slice none 0 0, .slice none 0 0], .slice none 0 0, .slice none 0 0, .slice none 0 0, .slice none 0 0], []⟩ 12 (by kernel_rfl) (by kernel_rfl) (by kernel_rfl) (by kernel_rfl)) ?_
  intro W base args ds gs before hval0 hW hcnd _
  have hval : ∀ (j : Nat) t v, Try.f6.params[j]? = some t → args[j]? = some v → Value.okWide Try.prog W .any base t v := hval0
  have hW' := hW
  have hlt : ∀ x ∈ before, x.block < W.heap.size := fun x hx => by simpa using hW'.lt x hx
  obtain ⟨p, q, hA0, hV, rfl, hfz, hnd⟩ := hW
  have hA : DataW.TrodAll enc Try.prog W 0 (fun _ => true) true Try.f6.params.toList args.toList ds p := hA0
  rw [Try.params6] at hA hval
  obtain ⟨v0, vs0, d0, ds0, b0, q0, hargs, rfl, rfl, h0, r0⟩ := trodAll_cons hA
  obtain ⟨v1, vs1, d1, ds1, b1, q1, rfl, rfl, rfl, h1, r1⟩ := trodAll_cons r0
  obtain ⟨v2, vs2, d2, ds2, b2, q2, rfl, rfl, rfl, h2, r2⟩ := trodAll_cons r1
  obtain ⟨v3, vs3, d3, ds3, b3, q3, rfl, rfl, rfl, h3, r3⟩ := trodAll_cons r2
  obtain ⟨v4, vs4, d4, ds4, b4, q4, rfl, rfl, rfl, h4, r4⟩ := trodAll_cons r3
  obtain ⟨rfl, rfl, rfl⟩ := trodAll_nil r4
  obtain rfl : args = #[v0, v1, v2, v3, v4] := by cases args; simp_all
  obtain ⟨rfl, rfl⟩ := trodVars_none hV
  obtain ⟨c0, p0, rfl, hm0, hN0, hv0, hC0⟩ := open_circ (hval 0 38 v0 rfl rfl) h0
  obtain ⟨A1, n1, k1, f1, rfl, hm1, hN1, hC1, hr1⟩ := open_tr (hval 1 29 v1 rfl rfl) h1
  obtain ⟨A2, n2, k2, f2, rfl, hm2, hN2, hC2, hr2⟩ := open_tr (hval 2 29 v2 rfl rfl) h2
  obtain ⟨A3, n3, k3, f3, rfl, hm3, hN3, hC3, hr3⟩ := open_tr (hval 3 29 v3 rfl rfl) h3
  obtain ⟨A4, n4, k4, f4, rfl, hm4, hN4, hC4, hr4⟩ := open_tr (hval 4 29 v4 rfl rfl) h4
  have hlo : laidOutB Try.prog = true := by kernel_rfl
  clear hA0 hval0
  simp only [List.append_nil] at hW' hlt
  refine (walk c0 p0 A1 n1 k1 f1 A2 n2 k2 f2 A3 n3 k3 f3 A4 n4 k4 f4 W hm0 hN0 hv0 hC0 hm1 hN1 hC1 hr1 hm2 hN2 hC2 hr2 hm3 hN3 hC3 hr3 hm4 hN4 hC4 hr4).mono fun e W' ⟨he, hb⟩ => ?_
  subst he
  have hback := (trodAll_cons_mk (arg_back (W' := W') hlo (by kernel_rfl) (of_decide_eq_true (by kernel_rfl)) h0 hb (fun x hx => hlt x (by simp [hx]))) (trodAll_cons_mk (arg_back (W' := W') hlo (by kernel_rfl) (of_decide_eq_true (by kernel_rfl)) h1 hb (fun x hx => hlt x (by simp [hx]))) (trodAll_cons_mk (arg_back (W' := W') hlo (by kernel_rfl) (of_decide_eq_true (by kernel_rfl)) h2 hb (fun x hx => hlt x (by simp [hx]))) (trodAll_cons_mk (arg_back (W' := W') hlo (by kernel_rfl) (of_decide_eq_true (by kernel_rfl)) h3 hb (fun x hx => hlt x (by simp [hx]))) (trodAll_cons_mk (arg_back (W' := W') hlo (by kernel_rfl) (of_decide_eq_true (by kernel_rfl)) h4 hb (fun x hx => hlt x (by simp [hx]))) trodAll_mk0)))))
  simp only [List.append_nil, List.nil_append] at hback
  exact ⟨_, rfl, law_post hW' (trodAll_cons_mk (shut_bool Try.underlying4 _) trodAll_mk0) hback rfl hb⟩

theorem over : Rows.ternaryCoversRow.holds Try.pinned (OpenSpec.ofChange Rows.ternaryCoversSpec) :=
  OpenClaim.holds_of_wide 6 Try.f6 rfl rfl rfl rfl rfl rfl rfl ⟨rfl, rfl, rfl, rfl, rfl⟩ rfl rfl rfl rfl rfl (by kernel_rfl) Try.func6 (by kernel_rfl)
    (of_decide_eq_true (by kernel_rfl)) (by unfold Func.isWrapper; first | (rw [if_pos (by decide +kernel)]; kernel_rfl) | (rw [if_neg (by decide +kernel)]; exact ⟨rfl, rfl⟩))
    (fun os started H enc _ => lifted os started H enc)

theorem proved : Rows.TernaryCoversSaid :=
  over
end Go.Proofs.Ythpifibemekmcaa.ternaryCovers
