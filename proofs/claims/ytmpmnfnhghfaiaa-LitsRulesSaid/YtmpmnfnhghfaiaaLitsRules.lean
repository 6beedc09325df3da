/- For each two literals and values: where their AND is simple its value is the AND of both values. No conditions. -/
import Derived.Test.YtmpmnfnhghfaiaaLitsAlive
import Derived.Test.YtmpmnfnhghfaiaaRows
import Derived.WalkKit
import Derived.ProofKit
import Derived.OpenShut
namespace Go.Proofs.Ytmpmnfnhghfaiaa.litsRules
open Go.ChangeShapes Go.WideShapes Go.ChangeAt Go.RowKit
set_option linter.unusedVariables false      -- a walk need not use every 'w<i>' (that an integer argument fits its kind)

theorem own : ownKnob Try.prog.godebug = none := by kernel_rfl

set_option maxRecDepth 100000 in
set_option maxHeartbeats 2000000 in
theorem walk (a0 : Int) (a1 : Int) (a2 : Bool) (a3 : Bool) (w0 : (Lit.int .i64 a0).wf = true) (w1 : (Lit.int .i64 a1).wf = true) (w : World) :
    Calls Try.prog 7 #[.int .i64 a0, .int .i64 a1, .bool a2, .bool a3] w fun e w' => e = .returned (.bool true) ∧ Grown w w' := by
  cases hl : Li.isL a0
  · go_enter Try.func7, Try.ntmps7
    go_wp2_with (first
      | (go_at_call 20; refine (rIs_any _ _).mono ?_; rintro e w' ⟨rfl, rfl⟩)
      | (go_at_call 14; refine (alive_any _).mono ?_; rintro e w' ⟨rfl, rfl⟩))
    go_ret
    exact ⟨rfl, Grown.refl _⟩
  cases hl1 : Li.isL a1
  · go_enter Try.func7, Try.ntmps7
    go_wp2_with (first
      | (go_at_call 20; refine (rIs_any _ _).mono ?_; rintro e w' ⟨rfl, rfl⟩)
      | (go_at_call 14; refine (alive_any _).mono ?_; rintro e w' ⟨rfl, rfl⟩))
    go_ret
    exact ⟨rfl, Grown.refl _⟩
  obtain ⟨hb0, hc0⟩ := Li.isL_yes hl
  obtain ⟨hb1, hc1⟩ := Li.isL_yes hl1
  have hs := Li.sm_isL hl hl1
  cases hi : (Li.sm a0 a1).2
  · obtain ⟨g0, g1, g2, g3⟩ := Li.sm_simple hb0 hb1 hi
    have q1 : (a0 / 2 == a1 / 2) = false := bq g3
    have q2 : (a0 / 2 != a1 / 2) = true := by rw [bne_iff_ne]; exact g3
    clear g3
    go_enter Try.func7, Try.ntmps7
    go_wp2_with (first
      | (go_at_call 20; refine (rIs_any _ _).mono ?_; rintro e w' ⟨rfl, rfl⟩)
      | (go_at_call 11; refine (and_yes _ _ _ hl hl1).mono ?_; rintro e w' ⟨rfl, rfl⟩)
      | (go_at_call 12; refine (value_yes _ _ _ (by assumption)).mono ?_; rintro e w' ⟨rfl, rfl⟩)
      | (go_at_call 14; refine (alive_any _).mono ?_; rintro e w' ⟨rfl, rfl⟩))
    go_ret
    exact ⟨rfl, Grown.refl _⟩
  · obtain ⟨s1, hs1, hd⟩ : ∃ s, s = (if a0 / 2 = a1 / 2 then a2 else a3) ∧ (a0 / 2 = a1 / 2 → s = a2) := ⟨_, rfl, fun h => if_pos h⟩
    obtain ⟨r1, r2⟩ := Li.sm_rules a2 s1 hb0 hb1 hi hd
    clear hd
    obtain ⟨l, el⟩ : ∃ l, l = (Li.sm a0 a1).1 := ⟨_, rfl⟩
    rw [← el] at r1 r2 hs
    obtain ⟨v1, hv1⟩ : ∃ v, v = (if l / 2 = a1 / 2 then s1 else a2) := ⟨_, rfl⟩
    rw [← hv1] at r1
    have el' := el.symm
    clear el
    obtain ⟨hb2, hc2⟩ := Li.isL_yes hs
    by_cases q1 : a0 / 2 = a1 / 2 <;> by_cases q2 : l / 2 = a1 / 2
    all_goals
      simp only [q1, q2, if_true, if_false] at hs1 hv1
      have hs2 := hs1.symm
      subst hs2
      have hv2 := hv1.symm
      subst hv2
      clear hs1 hv1
      first | have p1 := bt q1 | have p1 := bq q1
      first | have p2 := bt q2 | have p2 := bq q2
      clear q1 q2
      cases hx : Li.vl a0 a2
      all_goals
        rw [hx] at r1
        simp only [Bool.false_and, Bool.true_and] at r1
        by_cases y1 : l = a0
        · have z1 := bt y1
          clear y1 r2
          go_enter Try.func7, Try.ntmps7
          go_wp2_with (first
            | (go_at_call 20; refine (rIs_any _ _).mono ?_; rintro e w' ⟨rfl, rfl⟩)
            | (go_at_call 11; refine (and_yes _ _ _ hl hl1).mono ?_; rintro e w' ⟨rfl, rfl⟩)
            | (go_at_call 12; refine (value_yes _ _ _ (by assumption)).mono ?_; rintro e w' ⟨rfl, rfl⟩)
            | (go_at_call 14; refine (alive_any _).mono ?_; rintro e w' ⟨rfl, rfl⟩))
          go_ret
          exact ⟨rfl, Grown.refl _⟩
        by_cases y2 : l = a1
        · have z1 := bq y1
          have z2 := bt y2
          clear y1 y2 r2
          go_enter Try.func7, Try.ntmps7
          go_wp2_with (first
            | (go_at_call 20; refine (rIs_any _ _).mono ?_; rintro e w' ⟨rfl, rfl⟩)
            | (go_at_call 11; refine (and_yes _ _ _ hl hl1).mono ?_; rintro e w' ⟨rfl, rfl⟩)
            | (go_at_call 12; refine (value_yes _ _ _ (by assumption)).mono ?_; rintro e w' ⟨rfl, rfl⟩)
            | (go_at_call 14; refine (alive_any _).mono ?_; rintro e w' ⟨rfl, rfl⟩))
          go_ret
          exact ⟨rfl, Grown.refl _⟩
        · have z1 := bq y1
          have z2 := bq y2
          have z3 : (l == 0) = true := bt (by rcases r2 with h | h | h; exact absurd h y1; exact absurd h y2; exact h)
          clear y1 y2 r2
          go_enter Try.func7, Try.ntmps7
          go_wp2_with (first
            | (go_at_call 20; refine (rIs_any _ _).mono ?_; rintro e w' ⟨rfl, rfl⟩)
            | (go_at_call 11; refine (and_yes _ _ _ hl hl1).mono ?_; rintro e w' ⟨rfl, rfl⟩)
            | (go_at_call 12; refine (value_yes _ _ _ (by assumption)).mono ?_; rintro e w' ⟨rfl, rfl⟩)
            | (go_at_call 14; refine (alive_any _).mono ?_; rintro e w' ⟨rfl, rfl⟩))
          go_ret
          exact ⟨rfl, Grown.refl _⟩

set_option maxRecDepth 100000 in
theorem lifted (os : Os) (started : os.Started) (H : Type) (enc : TypeId × Value → H) :
    ReturnsInHanded {} Try.checked os 7 .any (Rows.litsRulesSpec.pre6 enc Try.prog Try.f7 Rows.litsRulesRow.domain false) (Rows.litsRulesSpec.post enc Try.prog Try.f7 false true false false) := by
  refine returnsInHanded_of_change (C := Try.checked) own started (by kernel_rfl) Try.func7
    (ChangeSpec.witness6 (enc := enc) (C := Try.checked) false ⟨#[], #[.int .i64 0, .int .i64 0, .bool false, .bool false], []⟩ 8 (by kernel_rfl) (by kernel_rfl) (by kernel_rfl) (by kernel_rfl)) ?_
  intro W base args ds gs before hval0 hW hcnd _
  have hval : ∀ (j : Nat) t v, Try.f7.params[j]? = some t → args[j]? = some v → Value.okWide Try.prog W .any base t v := hval0
  have hW' := hW
  obtain ⟨p, q, hA0, hV, rfl, hfz, hnd⟩ := hW
  have hA : DataW.TrodAll enc Try.prog W 0 (fun _ => true) true Try.f7.params.toList args.toList ds p := hA0
  rw [Try.params7] at hA hval
  obtain ⟨v0, vs0, d0, ds0, p0, q0, hargs, rfl, rfl, h0, r0⟩ := trodAll_cons hA
  obtain ⟨v1, vs1, d1, ds1, p1, q1, rfl, rfl, rfl, h1, r1⟩ := trodAll_cons r0
  obtain ⟨v2, vs2, d2, ds2, p2, q2, rfl, rfl, rfl, h2, r2⟩ := trodAll_cons r1
  obtain ⟨v3, vs3, d3, ds3, p3, q3, rfl, rfl, rfl, h3, r3⟩ := trodAll_cons r2
  obtain ⟨rfl, rfl, rfl⟩ := trodAll_nil r3
  obtain rfl : args = #[v0, v1, v2, v3] := by cases args; simp_all
  obtain ⟨rfl, rfl⟩ := trodVars_none hV
  obtain ⟨a0, rfl, rfl, rfl, w0⟩ := open_int Try.underlying3 (hval 0 3 v0 rfl rfl) h0
  obtain ⟨a1, rfl, rfl, rfl, w1⟩ := open_int Try.underlying3 (hval 1 3 v1 rfl rfl) h1
  obtain ⟨a2, rfl, rfl, rfl⟩ := open_bool Try.underlying4 (hval 2 4 v2 rfl rfl) h2
  obtain ⟨a3, rfl, rfl, rfl⟩ := open_bool Try.underlying4 (hval 3 4 v3 rfl rfl) h3
  clear hA0 hval0
  simp only [List.append_nil] at hW'
  refine (walk a0 a1 a2 a3 w0 w1 W).mono fun e W' ⟨he, hg⟩ => ?_
  subst he
  exact ⟨_, rfl, post_of_same (pa := []) (pv := []) hW' (fun _ _ _ => (trodAll_cons_mk (shut_bool Try.underlying4 _) trodAll_mk0)) (fun sp _ => (trodAll_cons_mk (shut_int Try.underlying3 w0) (trodAll_cons_mk (shut_int Try.underlying3 w1) (trodAll_cons_mk (shut_bool Try.underlying4 _) (trodAll_cons_mk (shut_bool Try.underlying4 _) trodAll_mk0))))) (fun _ _ => rfl) rfl
    (hg.frame _) hg.2.1 (ok_one (by kernel_rfl) rfl (okWide_bool_mk Try.underlying4 _))⟩

theorem over : Rows.litsRulesRow.holds Try.pinned (OpenSpec.ofChange Rows.litsRulesSpec) :=
  OpenClaim.holds_of_wide 7 Try.f7 rfl rfl rfl rfl rfl rfl rfl ⟨rfl, rfl, rfl, rfl, rfl⟩ rfl rfl rfl rfl rfl (by kernel_rfl) Try.func7 (by kernel_rfl)
    (of_decide_eq_true (by kernel_rfl)) (by unfold Func.isWrapper; first | (rw [if_pos (by decide +kernel)]; kernel_rfl) | (rw [if_neg (by decide +kernel)]; exact ⟨rfl, rfl⟩))
    (fun os started H enc _ => lifted os started H enc)

theorem proved : Rows.LitsRulesSaid :=
  over
end Go.Proofs.Ytmpmnfnhghfaiaa.litsRules
