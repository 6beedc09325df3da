/- For all circuits that are not great and all variables v: Check, Vars and Kind return the reference's results and errors, and leave the circuit as it is. No conditions. -/
import Derived.Test.YtheekpmjcgmopaaGatesFrame
import Derived.Test.YtheekpmjcgmopaaGatesKind
import Derived.Test.YtheekpmjcgmopaaGatesTwin
namespace Go.Proofs.Ytheekpmjcgmopaa.gatesTells
open Go.ChangeShapes Go.WideShapes Go.ChangeAt Go.RowKit
set_option linter.unusedVariables false
set_option linter.unusedSimpArgs false


theorem own : ownKnob Try.prog.godebug = none := by kernel_rfl

set_option maxRecDepth 100000 in
set_option maxHeartbeats 4000000 in
theorem walk (c0 : Cr) (p0 : Pl) (a1 : Int) (w : World) (hm0 : Mem w w.heap.size c0 p0) (hN0 : Nils c0 p0) (hv0 : Vals c0) (w1 : (Lit.int .i64 a1).wf = true) :
    Calls Try.prog 4 #[cv c0 p0, .int .i64 a1] w fun e w' => e = .returned (.bool true) ∧ Below w.heap.size w w' := by
  have hv1 := (i64_of w1).2
  cases hg : c0.gr
  · have hgr := Cr.gr_no hg
    have hs : Sm c0 := hv0.sm (by omega) (by omega) (by omega) (by omega)
    go_enter Try.func4, Try.ntmps4
    go_wp2_with (first
      | (go_at_call 17; refine (rGreat_any c0 p0 _).mono ?_; rintro e w1 ⟨rfl, hb1⟩; obtain ⟨hc1, hf1⟩ := bcell hb1; have hz1 : w.heap.size < w1.heap.size := (by have := hb1.size; (try simp at this); omega); have hB1 : Below w.heap.size w w1 := Below.step (by go_grown) (by go_size) hb1; have hA1 : Has w1 w.heap.size 26 (cc c0 p0) := (Has.new _ _ _).keep hb1 (by go_size))
      | (go_at_call 18; refine (twin_any c0 p0 _ hs (hm0.to hB1 hB1.size) hN0).mono ?_; rintro e w2 ⟨q, rfl, hO2, hb2⟩; obtain ⟨hc2, hf2⟩ := bcell hb2; have hz2 : w.heap.size < w2.heap.size := (by have := hb2.size; omega); have hB2 : Below w.heap.size w w2 := Below.step hB1 (by go_size) hb2; have hq2 := hO2.mem; have hD2 : Below w2.heap.size w2 w2 := Below.refl _ _; have hA2 := hA1.keep hb2 hz1)
      | (go_at_call 11; refine (gVars_any c0 q _ (hq2.to (by go_grown) (by simp)) hs).mono ?_; rintro e w3 ⟨rfl, hb3⟩; obtain ⟨hc3, hf3⟩ := bcell hb3; have hs3 := hb3.size; (try rw [World.size_alloc] at hs3); have hz3 : w.heap.size < w3.heap.size := (by omega); have hy3 : w2.heap.size < w3.heap.size := (by omega); have hB3 : Below w.heap.size w w3 := Below.step (by go_grown) (by go_size) hb3; have hD3 : Below w2.heap.size w2 w3 := Below.step (by go_grown) (by go_size) hb3; have hA3 := (hA2.keep ((Below.refl w2.heap.size _).alloc (Nat.le_refl _) _) hz2).keep hb3 (by go_size); have hQ3 : Has w3 w2.heap.size 26 (cc c0 q) := (Has.new _ _ _).keep hb3 (by go_size))
      | (go_at_call 19; refine (rVars_any c0 p0 _ (hm0.to hB3 hB3.size) hs).mono ?_; rintro e w4 ⟨rfl, hb4⟩; obtain ⟨hc4, hf4⟩ := bcell hb4; have hs4 := hb4.size; (try rw [World.size_alloc] at hs4); have hz4 : w.heap.size < w4.heap.size := (by omega); have hy4 : w2.heap.size < w4.heap.size := (by omega); have hB4 : Below w.heap.size w w4 := Below.step (by go_grown) (by go_size) hb4; have hD4 : Below w2.heap.size w2 w4 := Below.step (by go_grown) (by go_size) hb4; have hA4 := hA3.keep hb4 hz3; have hQ4 := hQ3.keep hb4 hy3)
      | (go_at_call 12; refine (gKind_any c0 q _ _ (hq2.to hD4 hD4.size) hs hv1).mono ?_; rintro e w5 ⟨rfl, hb5⟩; obtain ⟨hc5, hf5⟩ := bcell hb5; have hs5 := hb5.size; (try rw [World.size_alloc] at hs5); have hz5 : w.heap.size < w5.heap.size := (by omega); have hy5 : w2.heap.size < w5.heap.size := (by omega); have hB5 : Below w.heap.size w w5 := Below.step (by go_grown) (by go_size) hb5; have hD5 : Below w2.heap.size w2 w5 := Below.step (by go_grown) (by go_size) hb5; have hA5 := hA4.keep hb5 hz4; have hQ5 := hQ4.keep hb5 hy4)
      | (go_at_call 20; refine (rKind_any c0 p0 _ _ (hm0.to hB5 hB5.size) hs hv1).mono ?_; rintro e w6 ⟨rfl, hb6⟩; obtain ⟨hc6, hf6⟩ := bcell hb6; have hs6 := hb6.size; (try rw [World.size_alloc] at hs6); have hz6 : w.heap.size < w6.heap.size := (by omega); have hy6 : w2.heap.size < w6.heap.size := (by omega); have hB6 : Below w.heap.size w w6 := Below.step (by go_grown) (by go_size) hb6; have hD6 : Below w2.heap.size w2 w6 := Below.step (by go_grown) (by go_size) hb6; have hA6 := hA5.keep hb6 hz5; have hQ6 := hQ5.keep hb6 hy5))
    have HA := Lib.hid hA6
    have HQ := Lib.hid hQ6
    clear hc1 hc2 hc3 hc4 hc5 hc6 hf1 hf2 hf3 hf4 hf5 hf6 hb1 hb2 hb3 hb4 hb5 hb6 hA1 hA2 hA3 hA4 hA5 hA6 hQ3 hQ4 hQ5 hQ6 hB1 hB2 hB3 hB4 hB5 hD3 hD4 hD5 hD2
    go_region_held3 (fun w' => Below w6.heap.size w6 w' ∧ w'.cell? ⟨w.heap.size, 0, none⟩ = some (.int .i64 c0.i) ∧ w'.cell? ⟨w.heap.size, 1, none⟩ = some (.slice p0.A1 c0.nl p0.k1) ∧ w'.cell? ⟨w.heap.size, 2, none⟩ = some (.slice p0.A2 c0.na p0.k2) ∧ w'.cell? ⟨w.heap.size, 3, none⟩ = some (.slice p0.A3 c0.nb p0.k3) ∧ w'.cell? ⟨w.heap.size, 4, none⟩ = some (.slice p0.A4 c0.nc p0.k4) ∧
      w'.cell? ⟨w2.heap.size, 0, none⟩ = some (.int .i64 c0.i) ∧ w'.cell? ⟨w2.heap.size, 1, none⟩ = some (.slice q.A1 c0.nl q.k1) ∧ w'.cell? ⟨w2.heap.size, 2, none⟩ = some (.slice q.A2 c0.na q.k2) ∧ w'.cell? ⟨w2.heap.size, 3, none⟩ = some (.slice q.A3 c0.nb q.k3) ∧ w'.cell? ⟨w2.heap.size, 4, none⟩ = some (.slice q.A4 c0.nc q.k4))
      (exact Two.of HA.out HQ.out (by go_grown))
      (first
        | (go_at_call 15; refine (gCheck_any c0 q _ (hq2.to2 hD6 hD6.size (by first | assumption | go_grown)) hs).mono ?_; rintro e w7 ⟨rfl, hb7⟩; have hB7 : Below w6.heap.size w6 w7 := Below.next (by first | assumption | go_grown) hb7)
        | (go_at_call 21; refine (rCheck_any c0 p0 _ (hm0.to2 hB6 hB6.size (by first | assumption | go_grown)) hs).mono ?_; rintro e w7 ⟨rfl, hb7⟩; have hB7 : Below w6.heap.size w6 w7 := Below.next (by first | assumption | go_grown) hb7)
        | (go_at_call 22; refine (same_self c0 q p0 _ hs (hq2.to2 hD6 hD6.size (by first | assumption | go_grown)) (hm0.to2 hB6 hB6.size (by first | assumption | go_grown))).mono ?_; rintro e w7 ⟨rfl, hb7⟩; have hB7 : Below w6.heap.size w6 w7 := Below.next (by first | assumption | go_grown) hb7))
    all_goals
      go_wp2
      go_ret
      exact ⟨rfl, Below.step hB6 hB6.size (by assumption)⟩
  · go_enter Try.func4, Try.ntmps4
    go_wp2_with (go_at_call 17; refine (rGreat_any c0 p0 _).mono ?_; rintro e w1 ⟨rfl, hb1⟩; have hB1 : Below w.heap.size w w1 := Below.step (by go_grown) (by go_size) hb1)
    go_ret
    exact ⟨rfl, hB1⟩

set_option maxRecDepth 100000 in
theorem lifted (os : Os) (started : os.Started) (H : Type) (enc : TypeId × Value → H) :
    ReturnsInHanded {} Try.checked os 4 .any (Rows.gatesTellsSpec.pre6 enc Try.prog Try.f4 Rows.gatesTellsRow.domain false) (Rows.gatesTellsSpec.post enc Try.prog Try.f4 false true false false) := by
  refine returnsInHanded_of_change (C := Try.checked) own started (by kernel_rfl) Try.func4
    (ChangeSpec.witness6 (enc := enc) (C := Try.checked) false ⟨#[], #[.agg #[.int .i64 0, .slice none 0 0, .slice none 0 0, .slice none 0 0, .slice none 0 0], .int .i64 0], []⟩ 12 (by kernel_rfl) (by kernel_rfl) (by kernel_rfl) (by kernel_rfl)) ?_
  intro W base args ds gs before hval0 hW hcnd _
  have hval : ∀ (j : Nat) t v, Try.f4.params[j]? = some t → args[j]? = some v → Value.okWide Try.prog W .any base t v := hval0
  have hW' := hW
  have hlt : ∀ x ∈ before, x.block < W.heap.size := fun x hx => by simpa using hW'.lt x hx
  obtain ⟨p, q, hA0, hV, rfl, hfz, hnd⟩ := hW
  have hA : DataW.TrodAll enc Try.prog W 0 (fun _ => true) true Try.f4.params.toList args.toList ds p := hA0
  rw [Try.params4] at hA hval
  obtain ⟨v0, vs0, d0, ds0, b0, q0, hargs, rfl, rfl, h0, r0⟩ := trodAll_cons hA
  obtain ⟨v1, vs1, d1, ds1, b1, q1, rfl, rfl, rfl, h1, r1⟩ := trodAll_cons r0
  obtain ⟨rfl, rfl, rfl⟩ := trodAll_nil r1
  obtain rfl : args = #[v0, v1] := by cases args; simp_all
  obtain ⟨rfl, rfl⟩ := trodVars_none hV
  obtain ⟨c0, p0, rfl, hm0, hN0, hv0⟩ := open_circ (hval 0 26 v0 rfl rfl) h0
  obtain ⟨a1, rfl, rfl, rfl, w1⟩ := open_int Try.underlying3 (hval 1 3 v1 rfl rfl) h1
  have hlo : laidOutB Try.prog = true := by kernel_rfl
  clear hA0 hval0
  simp only [List.append_nil] at hW' hlt
  refine (walk c0 p0 a1 W hm0 hN0 hv0 w1).mono fun e W' ⟨he, hb⟩ => ?_
  subst he
  have hback := (trodAll_cons_mk (arg_back (W' := W') hlo (by kernel_rfl) (of_decide_eq_true (by kernel_rfl)) h0 hb (fun x hx => hlt x (by simp [hx]))) (trodAll_cons_mk (shut_int (enc := enc) (w := W') (base := 0) (spare := fun b => decide (b < W.heap.size)) (held := true) Try.underlying3 w1) trodAll_mk0))
  simp only [List.append_nil, List.nil_append] at hback
  exact ⟨_, rfl, law_post hW' (trodAll_cons_mk (shut_bool Try.underlying4 _) trodAll_mk0) hback rfl hb⟩

theorem over : Rows.gatesTellsRow.holds Try.pinned (OpenSpec.ofChange Rows.gatesTellsSpec) :=
  OpenClaim.holds_of_wide 4 Try.f4 rfl rfl rfl rfl rfl rfl rfl ⟨rfl, rfl, rfl, rfl, rfl⟩ rfl rfl rfl rfl rfl (by kernel_rfl) Try.func4 (by kernel_rfl)
    (of_decide_eq_true (by kernel_rfl)) (by unfold Func.isWrapper; first | (rw [if_pos (by decide +kernel)]; kernel_rfl) | (rw [if_neg (by decide +kernel)]; exact ⟨rfl, rfl⟩))
    (fun os started H enc _ => lifted os started H enc)

theorem proved : Rows.GatesTellsSaid :=
  over
end Go.Proofs.Ytheekpmjcgmopaa.gatesTells
