/- For all circuits that are not great, states and inputs of at most 100 bytes: All, Next and First return the reference's results and errors, and leave the circuit as it is. No conditions. -/
import Derived.Test.YthpifibemekmcaaTernKit
namespace Go.Proofs.Ythpifibemekmcaa.ternaryFrames
open Go.ChangeShapes Go.WideShapes Go.ChangeAt Go.RowKit
set_option linter.unusedVariables false
set_option linter.unusedSimpArgs false


theorem own : ownKnob Try.prog.godebug = none := by kernel_rfl

set_option maxRecDepth 100000 in
set_option maxHeartbeats 4000000 in
theorem walk (c0 : Cr) (p0 : Pl) (A1 : Option Addr) (n1 k1 : Nat) (f1 : Nat → Int) (A2 : Option Addr) (n2 k2 : Nat) (f2 : Nat → Int) (w : World) (hm0 : Mem w w.heap.size c0 p0) (hN0 : Nils c0 p0) (hv0 : Vals c0) (hC0 : Caps c0 p0) (hm1 : TrAt w w.heap.size A1 n1 f1) (hN1 : A1 = none → n1 = 0 ∧ k1 = 0) (hC1 : n1 ≤ k1 ∧ k1 ≤ maxLen) (hr1 : ∀ j, j < n1 → 0 ≤ f1 j ∧ f1 j ≤ 255) (hm2 : TrAt w w.heap.size A2 n2 f2) (hN2 : A2 = none → n2 = 0 ∧ k2 = 0) (hC2 : n2 ≤ k2 ∧ k2 ≤ maxLen) (hr2 : ∀ j, j < n2 → 0 ≤ f2 j ∧ f2 j ≤ 255) :
    Calls Try.prog 4 #[cv c0 p0, .slice A1 n1 k1, .slice A2 n2 k2] w fun e w' => e = .returned (.bool true) ∧ Below w.heap.size w w' := by
  cases hg : c0.gr
  · have hgr := Cr.gr_no hg
    have hs : Sm c0 := hv0.sm (by omega) (by omega) (by omega) (by omega)
    by_cases h1 : n1 ≤ 100
    · by_cases h2 : n2 ≤ 100
      · have hg0 : TArg w w.heap.size c0 p0 A1 n1 k1 f1 A2 n2 k2 f2 := ⟨hm0, hs, hm1, hm2, hN1, hN2, by omega, by omega, hr1, hr2⟩
        obtain ⟨b1, b2, b3⟩ := c0.tlen_bd n1 n2 f1 f2 hs
        go_enter Try.func4, Try.ntmps4
        go_wp2_with (first
          | (go_at_call 21; refine (rGreat_any c0 p0 _).mono ?_; rintro e w1 ⟨rfl, hb1⟩; obtain ⟨hc1, hf1⟩ := bcell hb1; have hz1 : w.heap.size < w1.heap.size := (by have := hb1.size; (try simp at this); omega); have hB1 : Below w.heap.size w w1 := Below.step (by go_grown) (by go_size) hb1)
          | (go_at_call 22; refine (twin_any c0 p0 _ hs (hm0.to hB1 hB1.size) hN0).mono ?_; rintro e w2 ⟨q, rfl, hO2, hb2⟩; obtain ⟨hc2, hf2⟩ := bcell hb2; have hz2 : w.heap.size < w2.heap.size := (by have := hb2.size; omega); have hB2 : Below w.heap.size w w2 := Below.step hB1 (by go_size) hb2; have hD2 : Below w2.heap.size w2 w2 := Below.refl _ _; have hgq : TArg w2 w2.heap.size c0 q A1 n1 k1 f1 A2 n2 k2 f2 := ⟨hO2.mem, hs, hm1.to hB2 hB2.size, hm2.to hB2 hB2.size, hN1, hN2, by omega, by omega, hr1, hr2⟩)
          | (go_at_call 16; (with_reducible refine (tAll_any (w2.alloc _) (hgq.to (by go_grown) (by simp))).mono ?_); rintro e w3 ⟨A3, k3, rfl, hi3, hb3⟩; obtain ⟨hc3, hf3⟩ := bcell hb3; have hs3 := hb3.size; (try rw [World.size_alloc] at hs3); have hz3 : w.heap.size < w3.heap.size := (by omega); have hy3 : w2.heap.size < w3.heap.size := (by omega); have hB3 : Below w.heap.size w w3 := Below.step (by first | assumption | go_grown) (by first | exact hB2.size | go_size) hb3; have hD3 : Below w2.heap.size w2 w3 := Below.step (by first | assumption | go_grown) (by first | exact hD2.size | go_size) hb3)
          | (go_at_call 23; (with_reducible refine (tRAll_any w3 (hg0.to hB3 hB3.size)).mono ?_); rintro e w4 ⟨A4, k4, rfl, hi4, hb4⟩; obtain ⟨hc4, hf4⟩ := bcell hb4; have hs4 := hb4.size; (try rw [World.size_alloc] at hs4); have hz4 : w.heap.size < w4.heap.size := (by omega); have hy4 : w2.heap.size < w4.heap.size := (by omega); have hB4 : Below w.heap.size w w4 := Below.step (by first | assumption | go_grown) (by first | exact hB3.size | go_size) hb4; have hD4 : Below w2.heap.size w2 w4 := Below.step (by first | assumption | go_grown) (by first | exact hD3.size | go_size) hb4; have hi3 := (hi3.keep hb4).more hb4.size)
          | (go_at_call 17; (with_reducible refine (tNext_any w4 (hgq.to hD4 hD4.size)).mono ?_); rintro e w5 ⟨A5, k5, rfl, hi5, hb5⟩; obtain ⟨hc5, hf5⟩ := bcell hb5; have hs5 := hb5.size; (try rw [World.size_alloc] at hs5); have hz5 : w.heap.size < w5.heap.size := (by omega); have hy5 : w2.heap.size < w5.heap.size := (by omega); have hB5 : Below w.heap.size w w5 := Below.step (by first | assumption | go_grown) (by first | exact hB4.size | go_size) hb5; have hD5 : Below w2.heap.size w2 w5 := Below.step (by first | assumption | go_grown) (by first | exact hD4.size | go_size) hb5; have hi3 := (hi3.keep hb5).more hb5.size; have hi4 := (hi4.keep hb5).more hb5.size)
          | (go_at_call 24; (with_reducible refine (tRNext_any w5 (hg0.to hB5 hB5.size)).mono ?_); rintro e w6 ⟨A6, k6, rfl, hi6, hb6⟩; obtain ⟨hc6, hf6⟩ := bcell hb6; have hs6 := hb6.size; (try rw [World.size_alloc] at hs6); have hz6 : w.heap.size < w6.heap.size := (by omega); have hy6 : w2.heap.size < w6.heap.size := (by omega); have hB6 : Below w.heap.size w w6 := Below.step (by first | assumption | go_grown) (by first | exact hB5.size | go_size) hb6; have hD6 : Below w2.heap.size w2 w6 := Below.step (by first | assumption | go_grown) (by first | exact hD5.size | go_size) hb6; have hi3 := (hi3.keep hb6).more hb6.size; have hi4 := (hi4.keep hb6).more hb6.size; have hi5 := (hi5.keep hb6).more hb6.size)
          | (go_at_call 18; (with_reducible refine (tFirst_any w6 (hgq.to hD6 hD6.size).hm hs).mono ?_); rintro e w7 ⟨A7, k7, rfl, hi7, hb7⟩; obtain ⟨hc7, hf7⟩ := bcell hb7; have hs7 := hb7.size; (try rw [World.size_alloc] at hs7); have hz7 : w.heap.size < w7.heap.size := (by omega); have hy7 : w2.heap.size < w7.heap.size := (by omega); have hB7 : Below w.heap.size w w7 := Below.step (by first | assumption | go_grown) (by first | exact hB6.size | go_size) hb7; have hD7 : Below w2.heap.size w2 w7 := Below.step (by first | assumption | go_grown) (by first | exact hD6.size | go_size) hb7; have hi3 := (hi3.keep hb7).more hb7.size; have hi4 := (hi4.keep hb7).more hb7.size; have hi5 := (hi5.keep hb7).more hb7.size; have hi6 := (hi6.keep hb7).more hb7.size)
          | (go_at_call 25; (with_reducible refine (tRFirst_any w7 (hg0.to hB7 hB7.size).hm hs).mono ?_); rintro e w8 ⟨A8, k8, rfl, hi8, hb8⟩; obtain ⟨hc8, hf8⟩ := bcell hb8; have hs8 := hb8.size; (try rw [World.size_alloc] at hs8); have hz8 : w.heap.size < w8.heap.size := (by omega); have hy8 : w2.heap.size < w8.heap.size := (by omega); have hB8 : Below w.heap.size w w8 := Below.step (by first | assumption | go_grown) (by first | exact hB7.size | go_size) hb8; have hD8 : Below w2.heap.size w2 w8 := Below.step (by first | assumption | go_grown) (by first | exact hD7.size | go_size) hb8; have hi3 := (hi3.keep hb8).more hb8.size; have hi4 := (hi4.keep hb8).more hb8.size; have hi5 := (hi5.keep hb8).more hb8.size; have hi6 := (hi6.keep hb8).more hb8.size; have hi7 := (hi7.keep hb8).more hb8.size)
          | (go_at_call 19; (with_reducible refine (samTs_self A3 A4 _ k3 k4 _ _ w8 b1 hi3 hi4).mono ?_); rintro e w9 ⟨rfl, hb9⟩; obtain ⟨hc9, hf9⟩ := bcell hb9; have hs9 := hb9.size; (try rw [World.size_alloc] at hs9); have hz9 : w.heap.size < w9.heap.size := (by omega); have hy9 : w2.heap.size < w9.heap.size := (by omega); have hB9 : Below w.heap.size w w9 := Below.step (by first | assumption | go_grown) (by first | exact hB8.size | go_size) hb9; have hD9 : Below w2.heap.size w2 w9 := Below.step (by first | assumption | go_grown) (by first | exact hD8.size | go_size) hb9; have hi5 := (hi5.keep hb9).more hb9.size; have hi6 := (hi6.keep hb9).more hb9.size; have hi7 := (hi7.keep hb9).more hb9.size; have hi8 := (hi8.keep hb9).more hb9.size)
          | (go_at_call 19; (with_reducible refine (samTs_self A5 A6 _ k5 k6 _ _ w9 b2 hi5 hi6).mono ?_); rintro e w10 ⟨rfl, hb10⟩; obtain ⟨hc10, hf10⟩ := bcell hb10; have hs10 := hb10.size; (try rw [World.size_alloc] at hs10); have hz10 : w.heap.size < w10.heap.size := (by omega); have hy10 : w2.heap.size < w10.heap.size := (by omega); have hB10 : Below w.heap.size w w10 := Below.step (by first | assumption | go_grown) (by first | exact hB9.size | go_size) hb10; have hD10 : Below w2.heap.size w2 w10 := Below.step (by first | assumption | go_grown) (by first | exact hD9.size | go_size) hb10; have hi7 := (hi7.keep hb10).more hb10.size; have hi8 := (hi8.keep hb10).more hb10.size)
          | (go_at_call 19; (with_reducible refine (samTs_self A7 A8 _ k7 k8 _ _ w10 b3 hi7 hi8).mono ?_); rintro e w11 ⟨rfl, hb11⟩; obtain ⟨hc11, hf11⟩ := bcell hb11; have hs11 := hb11.size; (try rw [World.size_alloc] at hs11); have hz11 : w.heap.size < w11.heap.size := (by omega); have hy11 : w2.heap.size < w11.heap.size := (by omega); have hB11 : Below w.heap.size w w11 := Below.step (by first | assumption | go_grown) (by first | exact hB10.size | go_size) hb11; have hD11 : Below w2.heap.size w2 w11 := Below.step (by first | assumption | go_grown) (by first | exact hD10.size | go_size) hb11)
          | (go_at_call 26; (with_reducible refine (same_self c0 q p0 w11 hs (hgq.to hD11 hD11.size).hm (hg0.to hB11 hB11.size).hm).mono ?_); rintro e w12 ⟨rfl, hb12⟩; have hB12 := Below.step hB11 hB11.size hb12))
        go_ret
        exact ⟨by simp, hB12⟩
      · go_enter Try.func4, Try.ntmps4
        go_wp2_with (go_at_call 21; refine (rGreat_any c0 p0 _).mono ?_; rintro e w1 ⟨rfl, hb1⟩; have hB1 : Below w.heap.size w w1 := Below.step (by go_grown) (by go_size) hb1)
        go_ret
        exact ⟨rfl, hB1⟩
    · go_enter Try.func4, Try.ntmps4
      go_wp2_with (go_at_call 21; refine (rGreat_any c0 p0 _).mono ?_; rintro e w1 ⟨rfl, hb1⟩; have hB1 : Below w.heap.size w w1 := Below.step (by go_grown) (by go_size) hb1)
      go_ret
      exact ⟨rfl, hB1⟩
  · go_enter Try.func4, Try.ntmps4
    go_wp2_with (go_at_call 21; refine (rGreat_any c0 p0 _).mono ?_; rintro e w1 ⟨rfl, hb1⟩; have hB1 : Below w.heap.size w w1 := Below.step (by go_grown) (by go_size) hb1)
    go_ret
    exact ⟨rfl, hB1⟩

set_option maxRecDepth 100000 in
theorem lifted (os : Os) (started : os.Started) (H : Type) (enc : TypeId × Value → H) :
    ReturnsInHanded {} Try.checked os 4 .any (Rows.ternaryFramesSpec.pre6 enc Try.prog Try.f4 Rows.ternaryFramesRow.domain false) (Rows.ternaryFramesSpec.post enc Try.prog Try.f4 false true false false) := by
  refine returnsInHanded_of_change (C := Try.checked) own started (by kernel_rfl) Try.func4
    (ChangeSpec.witness6 (enc := enc) (C := Try.checked) false ⟨#[], #[.agg #[.int .i64 0, .slice none 0 0, .slice none 0 0, .slice none 0 0, .slice none 0 0], .slice none 0 0, .slice none 0 0], []⟩ 12 (by kernel_rfl) (by kernel_rfl) (by kernel_rfl) (by kernel_rfl)) ?_
  intro W base args ds gs before hval0 hW hcnd _
  have hval : ∀ (j : Nat) t v, Try.f4.params[j]? = some t → args[j]? = some v → Value.okWide Try.prog W .any base t v := hval0
  have hW' := hW
  have hlt : ∀ x ∈ before, x.block < W.heap.size := fun x hx => by simpa using hW'.lt x hx
  obtain ⟨p, q, hA0, hV, rfl, hfz, hnd⟩ := hW
  have hA : DataW.TrodAll enc Try.prog W 0 (fun _ => true) true Try.f4.params.toList args.toList ds p := hA0
  rw [Try.params4] at hA hval
  obtain ⟨v0, vs0, d0, ds0, b0, q0, hargs, rfl, rfl, h0, r0⟩ := trodAll_cons hA
  obtain ⟨v1, vs1, d1, ds1, b1, q1, rfl, rfl, rfl, h1, r1⟩ := trodAll_cons r0
  obtain ⟨v2, vs2, d2, ds2, b2, q2, rfl, rfl, rfl, h2, r2⟩ := trodAll_cons r1
  obtain ⟨rfl, rfl, rfl⟩ := trodAll_nil r2
  obtain rfl : args = #[v0, v1, v2] := by cases args; simp_all
  obtain ⟨rfl, rfl⟩ := trodVars_none hV
  obtain ⟨c0, p0, rfl, hm0, hN0, hv0, hC0⟩ := open_circ (hval 0 38 v0 rfl rfl) h0
  obtain ⟨A1, n1, k1, f1, rfl, hm1, hN1, hC1, hr1⟩ := open_tr (hval 1 29 v1 rfl rfl) h1
  obtain ⟨A2, n2, k2, f2, rfl, hm2, hN2, hC2, hr2⟩ := open_tr (hval 2 29 v2 rfl rfl) h2
  have hlo : laidOutB Try.prog = true := by kernel_rfl
  clear hA0 hval0
  simp only [List.append_nil] at hW' hlt
  refine (walk c0 p0 A1 n1 k1 f1 A2 n2 k2 f2 W hm0 hN0 hv0 hC0 hm1 hN1 hC1 hr1 hm2 hN2 hC2 hr2).mono fun e W' ⟨he, hb⟩ => ?_
  subst he
  have hback := (trodAll_cons_mk (arg_back (W' := W') hlo (by kernel_rfl) (of_decide_eq_true (by kernel_rfl)) h0 hb (fun x hx => hlt x (by simp [hx]))) (trodAll_cons_mk (arg_back (W' := W') hlo (by kernel_rfl) (of_decide_eq_true (by kernel_rfl)) h1 hb (fun x hx => hlt x (by simp [hx]))) (trodAll_cons_mk (arg_back (W' := W') hlo (by kernel_rfl) (of_decide_eq_true (by kernel_rfl)) h2 hb (fun x hx => hlt x (by simp [hx]))) trodAll_mk0)))
  simp only [List.append_nil, List.nil_append] at hback
  exact ⟨_, rfl, law_post hW' (trodAll_cons_mk (shut_bool Try.underlying4 _) trodAll_mk0) hback rfl hb⟩

theorem over : Rows.ternaryFramesRow.holds Try.pinned (OpenSpec.ofChange Rows.ternaryFramesSpec) :=
  OpenClaim.holds_of_wide 4 Try.f4 rfl rfl rfl rfl rfl rfl rfl ⟨rfl, rfl, rfl, rfl, rfl⟩ rfl rfl rfl rfl rfl (by kernel_rfl) Try.func4 (by kernel_rfl)
    (of_decide_eq_true (by kernel_rfl)) (by unfold Func.isWrapper; first | (rw [if_pos (by decide +kernel)]; kernel_rfl) | (rw [if_neg (by decide +kernel)]; exact ⟨rfl, rfl⟩))
    (fun os started H enc _ => lifted os started H enc)

theorem proved : Rows.TernaryFramesSaid :=
  over
end Go.Proofs.Ythpifibemekmcaa.ternaryFrames
