/- For all bytes and all lists of at most 100 bytes: And, Not and Covers return the reference's results and errors. No conditions. -/
import Derived.Test.YthpifibemekmcaaTernKit
namespace Go.Proofs.Ythpifibemekmcaa.ternaryTells
open Go.ChangeShapes Go.WideShapes Go.ChangeAt Go.RowKit
set_option linter.unusedVariables false
set_option linter.unusedSimpArgs false


theorem own : ownKnob Try.prog.godebug = none := by kernel_rfl

set_option maxRecDepth 100000 in
set_option maxHeartbeats 4000000 in
theorem walk (a0 : Int) (a1 : Int) (A2 : Option Addr) (n2 k2 : Nat) (f2 : Nat → Int) (A3 : Option Addr) (n3 k3 : Nat) (f3 : Nat → Int) (w : World) (w0 : (Lit.int .u8 a0).wf = true) (w1 : (Lit.int .u8 a1).wf = true) (hm2 : TrAt w w.heap.size A2 n2 f2) (hN2 : A2 = none → n2 = 0 ∧ k2 = 0) (hC2 : n2 ≤ k2 ∧ k2 ≤ maxLen) (hr2 : ∀ j, j < n2 → 0 ≤ f2 j ∧ f2 j ≤ 255) (hm3 : TrAt w w.heap.size A3 n3 f3) (hN3 : A3 = none → n3 = 0 ∧ k3 = 0) (hC3 : n3 ≤ k3 ∧ k3 ≤ maxLen) (hr3 : ∀ j, j < n3 → 0 ≤ f3 j ∧ f3 j ≤ 255) :
    Calls Try.prog 5 #[.int .u8 a0, .int .u8 a1, .slice A2 n2 k2, .slice A3 n3 k3] w fun e w' => e = .returned (.bool true) ∧ Below w.heap.size w w' := by
  have ha := u8_of w0
  have hb := u8_of w1
  clear w0 w1
  by_cases h2 : n2 ≤ 100
  · by_cases h3 : n3 ≤ 100
    · have C1 := tAnd_any ha.1 hb.1 w
      have C2 := rAnd_any ha.1 hb.1 w
      have C3 := fun W => tNot_any ha.1 W
      have C4 := fun W => rNot_any ha.1 W
      obtain ⟨x1, hx1⟩ : ∃ x, andV a0 a1 = x := ⟨_, rfl⟩
      obtain ⟨x2, hx2⟩ : ∃ x, andE a0 a1 = x := ⟨_, rfl⟩
      obtain ⟨x3, hx3⟩ : ∃ x, notV a0 = x := ⟨_, rfl⟩
      obtain ⟨x4, hx4⟩ : ∃ x, notE a0 = x := ⟨_, rfl⟩
      rw [hx1, hx2] at C1 C2
      rw [hx3, hx4] at C3 C4
      have C5 := fun (W : World) (hW : Below w.heap.size w W) => tCovers_any A2 A3 n2 n3 k2 k3 f2 f3 w.heap.size W (by omega) (by omega) (hm2.keep hW) (hm3.keep hW) hr2 hr3
      have C6 := fun (W : World) (hW : Below w.heap.size w W) => trCovers_any A2 A3 n2 n3 k2 k3 f2 f3 W (by omega) (by omega) ((hm2.keep hW).more hW.size) ((hm3.keep hW).more hW.size) hr2 hr3
      obtain ⟨x5, hx5⟩ : ∃ x, covV n2 n3 f2 f3 = x := ⟨_, rfl⟩
      obtain ⟨x6, hx6⟩ : ∃ x, covE n2 n3 f2 f3 = x := ⟨_, rfl⟩
      rw [hx5, hx6] at C5 C6
      have D1 := Lib.hid C1
      have D2 := Lib.hid C2
      have D3 := Lib.hid C3
      have D4 := Lib.hid C4
      have D5 := Lib.hid C5
      have D6 := Lib.hid C6
      clear hx1 hx2 hx3 hx4 hx5 hx6 C1 C2 C3 C4 C5 C6
      go_enter Try.func5, Try.ntmps5
      go_wp2_with (first
        | (go_at_call 15; (with_reducible refine D1.out.mono ?_); rintro e wa ⟨rfl, rfl⟩)
        | (go_at_call 27; (with_reducible refine D2.out.mono ?_); rintro e wb ⟨rfl, hb1⟩)
        | (go_at_call 12; (with_reducible refine (D3.out wb).mono ?_); rintro e wc ⟨rfl, rfl⟩)
        | (go_at_call 28; (with_reducible refine (D4.out wb).mono ?_); rintro e wd ⟨rfl, hb2⟩; have hB2 : Below w.heap.size w wd := Below.step hb1 hb1.size hb2)
        | (go_at_call 13; (with_reducible refine (D5.out wd hB2).mono ?_); rintro e we ⟨rfl, rfl⟩)
        | (go_at_call 29; (with_reducible refine (D6.out wd hB2).mono ?_); rintro e wf ⟨rfl, hb3⟩; have hB3 : Below w.heap.size w wf := Below.step hB2 hB2.size hb3))
      go_ret
      exact ⟨by simp, hB3⟩
    · go_enter Try.func5, Try.ntmps5
      go_wp2
      go_ret
      exact ⟨rfl, Below.refl _ _⟩
  · go_enter Try.func5, Try.ntmps5
    go_wp2
    go_ret
    exact ⟨rfl, Below.refl _ _⟩

set_option maxRecDepth 100000 in
theorem lifted (os : Os) (started : os.Started) (H : Type) (enc : TypeId × Value → H) :
    ReturnsInHanded {} Try.checked os 5 .any (Rows.ternaryTellsSpec.pre6 enc Try.prog Try.f5 Rows.ternaryTellsRow.domain false) (Rows.ternaryTellsSpec.post enc Try.prog Try.f5 false true false false) := by
  refine returnsInHanded_of_change (C := Try.checked) own started (by kernel_rfl) Try.func5
    (ChangeSpec.witness6 (enc := enc) (C := Try.checked) false ⟨#[], #[.int .u8 0, .int .u8 0, .slice none 0 0, .slice none 0 0], []⟩ 12 (by kernel_rfl) (by kernel_rfl) (by kernel_rfl) (by kernel_rfl)) ?_
  intro W base args ds gs before hval0 hW hcnd _
  have hval : ∀ (j : Nat) t v, Try.f5.params[j]? = some t → args[j]? = some v → Value.okWide Try.prog W .any base t v := hval0
  have hW' := hW
  have hlt : ∀ x ∈ before, x.block < W.heap.size := fun x hx => by simpa using hW'.lt x hx
  obtain ⟨p, q, hA0, hV, rfl, hfz, hnd⟩ := hW
  have hA : DataW.TrodAll enc Try.prog W 0 (fun _ => true) true Try.f5.params.toList args.toList ds p := hA0
  rw [Try.params5] at hA hval
  obtain ⟨v0, vs0, d0, ds0, b0, q0, hargs, rfl, rfl, h0, r0⟩ := trodAll_cons hA
  obtain ⟨v1, vs1, d1, ds1, b1, q1, rfl, rfl, rfl, h1, r1⟩ := trodAll_cons r0
  obtain ⟨v2, vs2, d2, ds2, b2, q2, rfl, rfl, rfl, h2, r2⟩ := trodAll_cons r1
  obtain ⟨v3, vs3, d3, ds3, b3, q3, rfl, rfl, rfl, h3, r3⟩ := trodAll_cons r2
  obtain ⟨rfl, rfl, rfl⟩ := trodAll_nil r3
  obtain rfl : args = #[v0, v1, v2, v3] := by cases args; simp_all
  obtain ⟨rfl, rfl⟩ := trodVars_none hV
  obtain ⟨a0, rfl, rfl, rfl, w0⟩ := open_u8 (hval 0 5 v0 rfl rfl) h0
  obtain ⟨a1, rfl, rfl, rfl, w1⟩ := open_u8 (hval 1 5 v1 rfl rfl) h1
  obtain ⟨A2, n2, k2, f2, rfl, hm2, hN2, hC2, hr2⟩ := open_tr (hval 2 29 v2 rfl rfl) h2
  obtain ⟨A3, n3, k3, f3, rfl, hm3, hN3, hC3, hr3⟩ := open_tr (hval 3 29 v3 rfl rfl) h3
  have hlo : laidOutB Try.prog = true := by kernel_rfl
  clear hA0 hval0
  simp only [List.append_nil] at hW' hlt
  refine (walk a0 a1 A2 n2 k2 f2 A3 n3 k3 f3 W w0 w1 hm2 hN2 hC2 hr2 hm3 hN3 hC3 hr3).mono fun e W' ⟨he, hb⟩ => ?_
  subst he
  have hback := (trodAll_cons_mk (shut_int (enc := enc) (w := W') (base := 0) (spare := fun b => decide (b < W.heap.size)) (held := true) Try.underlying5 w0) (trodAll_cons_mk (shut_int (enc := enc) (w := W') (base := 0) (spare := fun b => decide (b < W.heap.size)) (held := true) Try.underlying5 w1) (trodAll_cons_mk (arg_back (W' := W') hlo (by kernel_rfl) (of_decide_eq_true (by kernel_rfl)) h2 hb (fun x hx => hlt x (by simp [hx]))) (trodAll_cons_mk (arg_back (W' := W') hlo (by kernel_rfl) (of_decide_eq_true (by kernel_rfl)) h3 hb (fun x hx => hlt x (by simp [hx]))) trodAll_mk0))))
  simp only [List.append_nil, List.nil_append] at hback
  exact ⟨_, rfl, law_post hW' (trodAll_cons_mk (shut_bool Try.underlying4 _) trodAll_mk0) hback rfl hb⟩

theorem over : Rows.ternaryTellsRow.holds Try.pinned (OpenSpec.ofChange Rows.ternaryTellsSpec) :=
  OpenClaim.holds_of_wide 5 Try.f5 rfl rfl rfl rfl rfl rfl rfl ⟨rfl, rfl, rfl, rfl, rfl⟩ rfl rfl rfl rfl rfl (by kernel_rfl) Try.func5 (by kernel_rfl)
    (of_decide_eq_true (by kernel_rfl)) (by unfold Func.isWrapper; first | (rw [if_pos (by decide +kernel)]; kernel_rfl) | (rw [if_neg (by decide +kernel)]; exact ⟨rfl, rfl⟩))
    (fun os started H enc _ => lifted os started H enc)

theorem proved : Rows.TernaryTellsSaid :=
  over
end Go.Proofs.Ythpifibemekmcaa.ternaryTells
