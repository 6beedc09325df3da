/- For all circuits that are not great: the raw circuit and the error are the reference's. No conditions. -/
import Derived.Test.YtjpoapllbdmggaaGatesFrame
import Derived.Test.YtjpoapllbdmggaaOrderRawR
namespace Go.Proofs.Ytjpoapllbdmggaa.orderRaws
open Go.ChangeShapes Go.WideShapes Go.ChangeAt Go.RowKit
set_option linter.unusedVariables false
set_option linter.unusedSimpArgs false


theorem own : ownKnob Try.prog.godebug = none := by kernel_rfl

set_option maxRecDepth 100000 in
set_option maxHeartbeats 4000000 in
theorem walk (c0 : Cr) (p0 : Pl) (w : World) (hm0 : Mem w w.heap.size c0 p0) (hN0 : Nils c0 p0) (hv0 : Vals c0) (hC0 : Caps c0 p0) :
    Calls Try.prog 5 #[cv c0 p0] w fun e w' => e = .returned (.bool true) ∧ Below w.heap.size w w' := by
  have hB0 : Below w.heap.size w w := Below.refl _ _
  cases hg : c0.gr
  · have hgr := Cr.gr_no hg
    have hs : Sm c0 := hv0.sm (by omega) (by omega) (by omega) (by omega)
    have g1 := hs.nl
    have g2 := hs.na
    cases h : (c0.chk == 0)
    · have h' : (c0.chk != 0) = true := by simp [bne, h]
      go_enter Try.func5, Try.ntmps5
      go_wp2_with (first
        | (go_at_call 24; refine (rGreat_any c0 p0 _).mono ?_; rintro e w1 ⟨rfl, hb1⟩; obtain ⟨hc1, hf1⟩ := bcell hb1; have hz1 : w.heap.size < w1.heap.size := (by have := hb1.size; (try simp at this); omega); have hB1 : Below w.heap.size w w1 := Below.step (by go_grown) (by go_size) hb1; have hA1 : Has w1 w.heap.size 26 (cc c0 p0) := (Has.new _ _ _).keep hb1 (by go_size))
        | (go_at_call 17; refine (oRaw_no c0 p0 _ (hm0.to hB1 hB1.size) hs h).mono ?_; rintro e w2 ⟨rfl, hb2⟩; have hB2 := Below.step hB1 hB1.size hb2; have hA2 := hA1.keep hb2 hA1.lt; have hz2 := hA2.lt; obtain ⟨x0, x1, x2, x3, x4⟩ := hA2.box)
        | (go_at_call 25; refine (rRaw_no c0 p0 _ (hm0.to (hB2.alloc hB2.size _) (by have := hB2.size; simp; omega)) hs h).mono ?_; rintro e w3 ⟨rfl, hb3⟩; have hB3 := Below.step (hB2.alloc hB2.size _) (by have := hB2.size; simp; omega) hb3; have hX3 := (Has.new w2 32 zr).keep hb3 (by simp); have hz3 := hX3.lt; obtain ⟨⟨y0, y1, y2, y3, y4, y5⟩, _⟩ := hX3.zr6)
        | (go_at_call 23; refine (oSame_self nulR nulRp nulRp _ nulR_sm (nulR_mem _) (nulR_mem _)).mono ?_; rintro e w4 ⟨rfl, hb4⟩; have hB4 := Below.step (hB3.alloc hB3.size _) (by have := hB3.size; simp; omega) hb4))
      go_ret
      exact ⟨rfl, hB4⟩
    · go_enter Try.func5, Try.ntmps5
      go_wp2_with (first
        | (go_at_call 24; refine (rGreat_any c0 p0 _).mono ?_; rintro e w1 ⟨rfl, hb1⟩; obtain ⟨hc1, hf1⟩ := bcell hb1; have hz1 : w.heap.size < w1.heap.size := (by have := hb1.size; (try simp at this); omega); have hB1 : Below w.heap.size w w1 := Below.step (by go_grown) (by go_size) hb1; have hA1 : Has w1 w.heap.size 26 (cc c0 p0) := (Has.new _ _ _).keep hb1 (by go_size))
        | (go_at_call 17; refine (oRaw_yes c0 p0 _ (hm0.to hB1 hB1.size) hs hN0 h).mono ?_; rintro e w2 ⟨⟨A1, A2, A3, A4, A5, k1, k2, k3, k4, k5⟩, rfl, hr2, hn2, hb2⟩; have hB2 := Below.step hB1 hB1.size hb2; have hA2 := hA1.keep hb2 hA1.lt; have hz2 := hA2.lt; obtain ⟨x0, x1, x2, x3, x4⟩ := hA2.box)
        | (go_at_call 25; refine (rRaw_yes c0 p0 _ (hm0.to (hB2.alloc hB2.size _) (by have := hB2.size; simp; omega)) hs hN0 h).mono ?_; rintro e w3 ⟨⟨B1, B2, B3, B4, B5, m1, m2, m3, m4, m5⟩, rfl, hr3, hn3, hb3⟩; have hB3 := Below.step (hB2.alloc hB2.size _) (by have := hB2.size; simp; omega) hb3; have hX3 := (Has.new w2 32 (rc c0.raw ⟨A1, A2, A3, A4, A5, k1, k2, k3, k4, k5⟩)).keep hb3 (by simp); have hz3 := hX3.lt; obtain ⟨y0, y1, y2, y3, y4, y5⟩ := hX3.rbox; have hr2 := (hr2.to ((Below.refl _ _).alloc (Nat.le_refl _) _) (by simp)).to hb3 hb3.size)
        | (go_at_call 23; refine (oSame_self c0.raw _ _ _ (raw_sm hs h) (hr2.to ((Below.refl _ _).alloc (Nat.le_refl _) _) (by simp)) (hr3.to ((Below.refl _ _).alloc (Nat.le_refl _) _) (by simp))).mono ?_; rintro e w4 ⟨rfl, hb4⟩; have hB4 := Below.step (hB3.alloc hB3.size _) (by have := hB3.size; simp; omega) hb4))
      go_ret
      exact ⟨rfl, hB4⟩
  · go_enter Try.func5, Try.ntmps5
    go_wp2_with (first
      | (go_at_call 24; refine (rGreat_any c0 p0 _).mono ?_; rintro e w1 ⟨rfl, hb1⟩; have hB1 : Below w.heap.size w w1 := Below.step (by go_grown) (by go_size) hb1))
    go_ret
    exact ⟨rfl, hB1⟩

set_option maxRecDepth 100000 in
theorem lifted (os : Os) (started : os.Started) (H : Type) (enc : TypeId × Value → H) :
    ReturnsInHanded {} Try.checked os 5 .any (Rows.orderRawsSpec.pre6 enc Try.prog Try.f5 Rows.orderRawsRow.domain false) (Rows.orderRawsSpec.post enc Try.prog Try.f5 false true false false) := by
  refine returnsInHanded_of_change (C := Try.checked) own started (by kernel_rfl) Try.func5
    (ChangeSpec.witness6 (enc := enc) (C := Try.checked) false ⟨#[], #[.agg #[.int .i64 0, .slice none 0 0, .slice none 0 0, .slice none 0 0, .slice none 0 0]], []⟩ 12 (by kernel_rfl) (by kernel_rfl) (by kernel_rfl) (by kernel_rfl)) ?_
  intro W base args ds gs before hval0 hW hcnd _
  have hval : ∀ (j : Nat) t v, Try.f5.params[j]? = some t → args[j]? = some v → Value.okWide Try.prog W .any base t v := hval0
  have hW' := hW
  have hlt : ∀ x ∈ before, x.block < W.heap.size := fun x hx => by simpa using hW'.lt x hx
  obtain ⟨p, q, hA0, hV, rfl, hfz, hnd⟩ := hW
  have hA : DataW.TrodAll enc Try.prog W 0 (fun _ => true) true Try.f5.params.toList args.toList ds p := hA0
  rw [Try.params5] at hA hval
  obtain ⟨v0, vs0, d0, ds0, b0, q0, hargs, rfl, rfl, h0, r0⟩ := trodAll_cons hA
  obtain ⟨rfl, rfl, rfl⟩ := trodAll_nil r0
  obtain rfl : args = #[v0] := by cases args; simp_all
  obtain ⟨rfl, rfl⟩ := trodVars_none hV
  obtain ⟨c0, p0, rfl, hm0, hN0, hv0, hC0⟩ := open_circ (hval 0 26 v0 rfl rfl) h0
  have hlo : laidOutB Try.prog = true := by kernel_rfl
  clear hA0 hval0
  simp only [List.append_nil] at hW' hlt
  refine (walk c0 p0 W hm0 hN0 hv0 hC0).mono fun e W' ⟨he, hb⟩ => ?_
  subst he
  have hback := (trodAll_cons_mk (arg_back (W' := W') hlo (by kernel_rfl) (of_decide_eq_true (by kernel_rfl)) h0 hb (fun x hx => hlt x (by simp [hx]))) trodAll_mk0)
  simp only [List.append_nil, List.nil_append] at hback
  exact ⟨_, rfl, law_post hW' (trodAll_cons_mk (shut_bool Try.underlying4 _) trodAll_mk0) hback rfl hb⟩

theorem over : Rows.orderRawsRow.holds Try.pinned (OpenSpec.ofChange Rows.orderRawsSpec) :=
  OpenClaim.holds_of_wide 5 Try.f5 rfl rfl rfl rfl rfl rfl rfl ⟨rfl, rfl, rfl, rfl, rfl⟩ rfl rfl rfl rfl rfl (by kernel_rfl) Try.func5 (by kernel_rfl)
    (of_decide_eq_true (by kernel_rfl)) (by unfold Func.isWrapper; first | (rw [if_pos (by decide +kernel)]; kernel_rfl) | (rw [if_neg (by decide +kernel)]; exact ⟨rfl, rfl⟩))
    (fun os started H enc _ => lifted os started H enc)

theorem proved : Rows.OrderRawsSaid :=
  over
end Go.Proofs.Ytjpoapllbdmggaa.orderRaws
