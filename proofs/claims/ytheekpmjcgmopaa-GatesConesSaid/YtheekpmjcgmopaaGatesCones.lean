/- For all circuits that are not great and all literals l: Cone and Depth return the reference's results and errors. No conditions. -/
import Derived.Test.YtheekpmjcgmopaaGatesFrame
import Derived.Test.YtheekpmjcgmopaaGatesOut
import Derived.Test.YtheekpmjcgmopaaGatesSame
namespace Go.Proofs.Ytheekpmjcgmopaa.gatesCones
open Go.ChangeShapes Go.WideShapes Go.ChangeAt Go.RowKit
set_option linter.unusedVariables false
set_option linter.unusedSimpArgs false


theorem own : ownKnob Try.prog.godebug = none := by kernel_rfl

set_option maxRecDepth 100000 in
set_option maxHeartbeats 4000000 in
theorem walk (c0 : Cr) (p0 : Pl) (a1 : Int) (w : World) (hm0 : Mem w w.heap.size c0 p0) (hN0 : Nils c0 p0) (hv0 : Vals c0) (w1 : (Lit.int .i64 a1).wf = true) :
    Calls Try.prog 5 #[cv c0 p0, .int .i64 a1] w fun e w' => e = .returned (.bool true) ∧ Below w.heap.size w w' := by
  have hv1 := (i64_of w1).2
  cases hg : c0.gr
  · have hgr := Cr.gr_no hg
    have hs : Sm c0 := hv0.sm (by omega) (by omega) (by omega) (by omega)
    have hB0 : Below w.heap.size w w := Below.refl _ _
    have hcl := Cr.cone_len c0 a1 hs
    go_enter Try.func5, Try.ntmps5
    go_wp2_with (first
      | (go_at_call 17; refine (rGreat_any c0 p0 _).mono ?_; rintro e w1 ⟨rfl, hb1⟩; obtain ⟨hc1, hf1⟩ := bcell hb1; have hz1 : w.heap.size < w1.heap.size := (by have := hb1.size; (try simp at this); omega); have hB1 : Below w.heap.size w w1 := Below.step (by go_grown) (by go_size) hb1)
      | (go_at_call 13; refine (gCone_out c0 p0 a1 _ (hm0.to hB1 hB1.size) hs).mono ?_; rintro e w2 ⟨A2, k2, rfl, hi2, hb2⟩; obtain ⟨hc2, hf2⟩ := bcell hb2; have hz2 : w.heap.size < w2.heap.size := (by have := hb2.size; omega); have hB2 : Below w.heap.size w w2 := Below.step hB1 hB1.size hb2)
      | (go_at_call 23; refine (rCone_out c0 p0 a1 _ (hm0.to hB2 hB2.size) hs hv1).mono ?_; rintro e w3 ⟨A3, k3, rfl, hi3, hb3⟩; obtain ⟨hc3, hf3⟩ := bcell hb3; have hz3 : w.heap.size < w3.heap.size := (by have := hb3.size; omega); have hB3 : Below w.heap.size w w3 := Below.step hB2 hB2.size hb3; have hi2 := (hi2.keep hb3).more hb3.size)
      | (go_at_call 14; refine (gDepth_any c0 p0 _ (hm0.to hB3 hB3.size) hs).mono ?_; rintro e w4 ⟨rfl, hb4⟩; obtain ⟨hc4, hf4⟩ := bcell hb4; have hz4 : w.heap.size < w4.heap.size := (by have := hb4.size; omega); have hB4 : Below w.heap.size w w4 := Below.step hB3 hB3.size hb4; have hi2 := (hi2.keep hb4).more hb4.size; have hi3 := (hi3.keep hb4).more hb4.size)
      | (go_at_call 24; refine (rDepth_any c0 p0 _ (hm0.to hB4 hB4.size) hs).mono ?_; rintro e w5 ⟨rfl, hb5⟩; obtain ⟨hc5, hf5⟩ := bcell hb5; have hz5 : w.heap.size < w5.heap.size := (by have := hb5.size; omega); have hB5 : Below w.heap.size w w5 := Below.step hB4 hB4.size hb5; have hi2 := (hi2.keep hb5).more hb5.size; have hi3 := (hi3.keep hb5).more hb5.size)
      | (go_at_call 25; refine (sameInts_self A2 A3 _ k2 k3 _ _ _ (by omega) hi2 hi3).mono ?_; rintro e w6 ⟨rfl, hb6⟩; have hB6 : Below w.heap.size w w6 := Below.step hB5 hB5.size hb6))
    go_ret
    exact ⟨rfl, hB6⟩
  · go_enter Try.func5, Try.ntmps5
    go_wp2_with (go_at_call 17; refine (rGreat_any c0 p0 _).mono ?_; rintro e w1 ⟨rfl, hb1⟩; have hB1 : Below w.heap.size w w1 := Below.step (by go_grown) (by go_size) hb1)
    go_ret
    exact ⟨rfl, hB1⟩

set_option maxRecDepth 100000 in
theorem lifted (os : Os) (started : os.Started) (H : Type) (enc : TypeId × Value → H) :
    ReturnsInHanded {} Try.checked os 5 .any (Rows.gatesConesSpec.pre6 enc Try.prog Try.f5 Rows.gatesConesRow.domain false) (Rows.gatesConesSpec.post enc Try.prog Try.f5 false true false false) := by
  refine returnsInHanded_of_change (C := Try.checked) own started (by kernel_rfl) Try.func5
    (ChangeSpec.witness6 (enc := enc) (C := Try.checked) false ⟨#[], #[.agg #[.int .i64 0, .slice none 0 0, .slice none 0 0, .slice none 0 0, .slice none 0 0], .int .i64 0], []⟩ 12 (by kernel_rfl) (by kernel_rfl) (by kernel_rfl) (by kernel_rfl)) ?_
  intro W base args ds gs before hval0 hW hcnd _
  have hval : ∀ (j : Nat) t v, Try.f5.params[j]? = some t → args[j]? = some v → Value.okWide Try.prog W .any base t v := hval0
  have hW' := hW
  have hlt : ∀ x ∈ before, x.block < W.heap.size := fun x hx => by simpa using hW'.lt x hx
  obtain ⟨p, q, hA0, hV, rfl, hfz, hnd⟩ := hW
  have hA : DataW.TrodAll enc Try.prog W 0 (fun _ => true) true Try.f5.params.toList args.toList ds p := hA0
  rw [Try.params5] at hA hval
  obtain ⟨v0, vs0, d0, ds0, b0, q0, hargs, rfl, rfl, h0, r0⟩ := trodAll_cons hA
  obtain ⟨v1, vs1, d1, ds1, b1, q1, rfl, rfl, rfl, h1, r1⟩ := trodAll_cons r0
  obtain ⟨rfl, rfl, rfl⟩ := trodAll_nil r1
  obtain rfl : args = #[v0, v1] := by cases args; simp_all
  obtain ⟨rfl, rfl⟩ := trodVars_none hV
  obtain ⟨c0, p0, rfl, hm0, hN0, hv0⟩ := open_circ (hval 0 26 v0 rfl rfl) h0
  obtain ⟨a1, rfl, rfl, rfl, w1⟩ := open_int Try.underlying3 (hval 1 3 v1 rfl rfl) h1
  have hlo : laidOutB Try.prog = true := by kernel_rfl
  clear hA0 hval0
  simp only [List.append_nil] at hW' hlt
  refine (walk c0 p0 a1 W hm0 hN0 hv0 w1).mono fun e W' ⟨he, hb⟩ => ?_
  subst he
  have hback := (trodAll_cons_mk (arg_back (W' := W') hlo (by kernel_rfl) (of_decide_eq_true (by kernel_rfl)) h0 hb (fun x hx => hlt x (by simp [hx]))) (trodAll_cons_mk (shut_int (enc := enc) (w := W') (base := 0) (spare := fun b => decide (b < W.heap.size)) (held := true) Try.underlying3 w1) trodAll_mk0))
  simp only [List.append_nil, List.nil_append] at hback
  exact ⟨_, rfl, law_post hW' (trodAll_cons_mk (shut_bool Try.underlying4 _) trodAll_mk0) hback rfl hb⟩

theorem over : Rows.gatesConesRow.holds Try.pinned (OpenSpec.ofChange Rows.gatesConesSpec) :=
  OpenClaim.holds_of_wide 5 Try.f5 rfl rfl rfl rfl rfl rfl rfl ⟨rfl, rfl, rfl, rfl, rfl⟩ rfl rfl rfl rfl rfl (by kernel_rfl) Try.func5 (by kernel_rfl)
    (of_decide_eq_true (by kernel_rfl)) (by unfold Func.isWrapper; first | (rw [if_pos (by decide +kernel)]; kernel_rfl) | (rw [if_neg (by decide +kernel)]; exact ⟨rfl, rfl⟩))
    (fun os started H enc _ => lifted os started H enc)

theorem proved : Rows.GatesConesSaid :=
  over
end Go.Proofs.Ytheekpmjcgmopaa.gatesCones
