/- For all circuits and runs that are not great: Witness and Cut return the reference's results and errors. No conditions. -/
import Derived.Test.YtcbkpkdnmjlggaaTraceKit
namespace Go.Proofs.Ytcbkpkdnmjlggaa.tracesWitnesses
open Go.ChangeShapes Go.WideShapes Go.ChangeAt Go.RowKit
set_option linter.unusedVariables false
set_option linter.unusedSimpArgs false


theorem own : ownKnob Try.prog.godebug = none := by kernel_rfl

set_option maxRecDepth 100000 in
set_option maxHeartbeats 4000000 in
theorem walk (c0 : Cr) (p0 : Pl) (t1 : Tr) (q1 : Tp) (w : World) (hm0 : Mem w w.heap.size c0 p0) (hN0 : Nils c0 p0) (hv0 : Vals c0) (hC0 : Caps c0 p0) (ht1 : TMem w w.heap.size t1 q1) :
    Calls Try.prog 5 #[cv c0 p0, tv t1 q1] w fun e w' => e = .returned (.bool true) ∧ Below w.heap.size w w' := by
  have hB0 := ct_b w c0 p0 t1 q1
  cases hg : c0.gr
  · have hgr := Cr.gr_no hg
    have hs : Sm c0 := hv0.sm (by omega) (by omega) (by omega) (by omega)
    cases hg1 : t1.gr
    · have hts := Tr.gr_no hg1
      have hg0 : RArg w w.heap.size c0 p0 t1 q1 := ⟨hm0, hs, ht1, hts⟩
      have HU := Lib.hid (cutT_sm (c := c0) hts)
      go_enter Try.func5, Try.ntmps5
      go_wp2_with (first
        | (go_at_call 21; refine (rGreat_any c0 p0 _).mono ?_; rw [hg]; rintro e w1 ⟨rfl, hb1⟩; have hX1 := Bx.first hb1; obtain ⟨x0, x1, x2, x3, x4, x5, x6, z0, z1⟩ := hX1.cells)
        | (go_at_call 22; (with_reducible refine (rGreat6_any w1 (ht1.to hX1.b hX1.b.size)).mono ?_); rw [hg1]; rintro e w2 ⟨rfl, hb2⟩; have hX2 := hX1.call hb2; obtain ⟨x0, x1, x2, x3, x4, x5, x6, z0, z1⟩ := hX2.cells)
        | (go_at_call 12; (with_reducible refine (twitness_any w2 (hg0.to hX2.b hX2.b.size)).mono ?_); rintro e w3 ⟨rfl, hb3⟩; have hX3 := hX2.call hb3; obtain ⟨x0, x1, x2, x3, x4, x5, x6, z0, z1⟩ := hX3.cells)
        | (go_at_call 28; (with_reducible refine (rWitness_any w3 (hg0.to hX3.b hX3.b.size)).mono ?_); rintro e w4 ⟨rfl, hb4⟩; have hX4 := hX3.call hb4; obtain ⟨x0, x1, x2, x3, x4, x5, x6, z0, z1⟩ := hX4.cells)
        | (go_at_call 13; (with_reducible refine (tcut_any w4 (hg0.to hX4.b hX4.b.size)).mono ?_); rintro e w5 ⟨q5, rfl, hm5, hb5⟩; have hX5 := hX4.call hb5; obtain ⟨x0, x1, x2, x3, x4, x5, x6, z0, z1⟩ := hX5.cells; have hY5 := hX5.al (.cells #[.slice q5.A1 (c0.cutT t1).nf q5.k1, .slice q5.A2 (c0.cutT t1).ni q5.k2] 32); have hV5 : Has (w5.alloc (.cells #[.slice q5.A1 (c0.cutT t1).nf q5.k1, .slice q5.A2 (c0.cutT t1).ni q5.k2] 32)) w5.heap.size 32 (tcs (c0.cutT t1) q5) := Has.new _ _ _; have hm5 := hm5.to ((Below.refl w5.heap.size w5).alloc (Nat.le_refl _) (.cells #[.slice q5.A1 (c0.cutT t1).nf q5.k1, .slice q5.A2 (c0.cutT t1).ni q5.k2] 32)) (by simp))
        | (go_at_call 29; (with_reducible refine (rCut_any _ (hg0.to hY5.b hY5.b.size)).mono ?_); rintro e w6 ⟨q6, rfl, hm6, hb6⟩; have hX6 := hY5.call hb6; obtain ⟨x0, x1, x2, x3, x4, x5, x6, z0, z1⟩ := hX6.cells; have hV6 := hV5.keep hb6 hV5.lt; obtain ⟨y0, y1⟩ := hV6.tbox; have hV6l := hV6.lt; have hm5 := hm5.to hb6 hb6.size; have hY6 := hX6.al (.cells #[.slice q6.A1 (c0.cutT t1).nf q6.k1, .slice q6.A2 (c0.cutT t1).ni q6.k2] 32); have hB6 := (Below.refl w6.heap.size w6).alloc (Nat.le_refl _) (.cells #[.slice q6.A1 (c0.cutT t1).nf q6.k1, .slice q6.A2 (c0.cutT t1).ni q6.k2] 32); have hn5 := hm5.to hB6 (by simp); have hn6 := hm6.to hB6 (by simp))
        | (go_at_call 27; (with_reducible refine (samT_at (samT_self _) _ hn5 HU.out hn6 HU.out).mono ?_); rintro e w7 ⟨rfl, hb7⟩; have hX7 := hY6.call hb7))
      go_ret
      exact ⟨by simp, hX7.b⟩
    · go_enter Try.func5, Try.ntmps5
      go_wp2_with (first
        | (go_at_call 21; refine (rGreat_any c0 p0 _).mono ?_; rw [hg]; rintro e w1 ⟨rfl, hb1⟩; have hX1 := Bx.first hb1; obtain ⟨x0, x1, x2, x3, x4, x5, x6, z0, z1⟩ := hX1.cells)
        | (go_at_call 22; (with_reducible refine (rGreat6_any w1 (ht1.to hX1.b hX1.b.size)).mono ?_); rw [hg1]; rintro e w2 ⟨rfl, hb2⟩; have hX2 := hX1.call hb2))
      go_ret
      exact ⟨rfl, hX2.b⟩
  · go_enter Try.func5, Try.ntmps5
    go_wp2_with (go_at_call 21; refine (rGreat_any c0 p0 _).mono ?_; rw [hg]; rintro e w1 ⟨rfl, hb1⟩; have hX1 := Bx.first hb1)
    go_ret
    exact ⟨rfl, hX1.b⟩

set_option maxRecDepth 100000 in
theorem lifted (os : Os) (started : os.Started) (H : Type) (enc : TypeId × Value → H) :
    ReturnsInHanded {} Try.checked os 5 .any (Rows.tracesWitnessesSpec.pre6 enc Try.prog Try.f5 Rows.tracesWitnessesRow.domain false) (Rows.tracesWitnessesSpec.post enc Try.prog Try.f5 false true false false) := by
  refine returnsInHanded_of_change (C := Try.checked) own started (by kernel_rfl) Try.func5
    (ChangeSpec.witness6 (enc := enc) (C := Try.checked) false ⟨#[], #[.agg #[.int .i64 0, .slice none 0 0, .slice none 0 0, .slice none 0 0, .slice none 0 0], .agg #[.slice none 0 0, .slice none 0 0]], []⟩ 12 (by kernel_rfl) (by kernel_rfl) (by kernel_rfl) (by kernel_rfl)) ?_
  intro W base args ds gs before hval0 hW hcnd _
  have hval : ∀ (j : Nat) t v, Try.f5.params[j]? = some t → args[j]? = some v → Value.okWide Try.prog W .any base t v := hval0
  have hW' := hW
  have hlt : ∀ x ∈ before, x.block < W.heap.size := fun x hx => by simpa using hW'.lt x hx
  obtain ⟨p, q, hA0, hV, rfl, hfz, hnd⟩ := hW
  have hA : DataW.TrodAll enc Try.prog W 0 (fun _ => true) true Try.f5.params.toList args.toList ds p := hA0
  rw [Try.params5] at hA hval
  obtain ⟨v0, vs0, d0, ds0, b0, q0, hargs, rfl, rfl, h0, r0⟩ := trodAll_cons hA
  obtain ⟨v1, vs1, d1, ds1, b1, q1, rfl, rfl, rfl, h1, r1⟩ := trodAll_cons r0
  obtain ⟨rfl, rfl, rfl⟩ := trodAll_nil r1
  obtain rfl : args = #[v0, v1] := by cases args; simp_all
  obtain ⟨rfl, rfl⟩ := trodVars_none hV
  obtain ⟨c0, p0, rfl, hm0, hN0, hv0, hC0⟩ := open_circ (hval 0 28 v0 rfl rfl) h0
  obtain ⟨t1, q1, rfl, ht1⟩ := open_tr6 (hval 1 32 v1 rfl rfl) h1
  have hlo : laidOutB Try.prog = true := by kernel_rfl
  clear hA0 hval0
  simp only [List.append_nil] at hW' hlt
  refine (walk c0 p0 t1 q1 W hm0 hN0 hv0 hC0 ht1).mono fun e W' ⟨he, hb⟩ => ?_
  subst he
  have hback := (trodAll_cons_mk (arg_back (W' := W') hlo (by kernel_rfl) (of_decide_eq_true (by kernel_rfl)) h0 hb (fun x hx => hlt x (by simp [hx]))) (trodAll_cons_mk (arg_back (W' := W') hlo (by kernel_rfl) (of_decide_eq_true (by kernel_rfl)) h1 hb (fun x hx => hlt x (by simp [hx]))) trodAll_mk0))
  simp only [List.append_nil, List.nil_append] at hback
  exact ⟨_, rfl, law_post hW' (trodAll_cons_mk (shut_bool Try.underlying4 _) trodAll_mk0) hback rfl hb⟩

theorem over : Rows.tracesWitnessesRow.holds Try.pinned (OpenSpec.ofChange Rows.tracesWitnessesSpec) :=
  OpenClaim.holds_of_wide 5 Try.f5 rfl rfl rfl rfl rfl rfl rfl ⟨rfl, rfl, rfl, rfl, rfl⟩ rfl rfl rfl rfl rfl (by kernel_rfl) Try.func5 (by kernel_rfl)
    (of_decide_eq_true (by kernel_rfl)) (by unfold Func.isWrapper; first | (rw [if_pos (by decide +kernel)]; kernel_rfl) | (rw [if_neg (by decide +kernel)]; exact ⟨rfl, rfl⟩))
    (fun os started H enc _ => lifted os started H enc)

theorem proved : Rows.TracesWitnessesSaid :=
  over
end Go.Proofs.Ytcbkpkdnmjlggaa.tracesWitnesses
