/- The examples, limits, rules one by one, and errors of the chapter lits hold. No conditions. -/
import Derived.Test.YtmpmnfnhghfaiaaLitsAlive
import Derived.Test.YtmpmnfnhghfaiaaRows
import Derived.WalkKit
import Derived.ProofKit
import Derived.OpenShut
namespace Go.Proofs.Ytmpmnfnhghfaiaa.litsNames
open Go.ChangeShapes Go.WideShapes Go.ChangeAt Go.RowKit
set_option linter.unusedVariables false      -- a walk need not use every 'w<i>' (that an integer argument fits its kind)

theorem own : ownKnob Try.prog.godebug = none := by kernel_rfl

set_option maxRecDepth 100000 in
set_option maxHeartbeats 2000000 in
theorem walk  (w : World) :
    Calls Try.prog 3 #[] w fun e w' => e = .returned (.bool true) ∧ Grown w w' := by
  have s1 : Li.sm 0 0 = (0, true) := by decide
  have s2 : Li.sm 0 9 = (0, true) := by decide
  have s3 : Li.sm 1 0 = (0, true) := by decide
  have s4 : Li.sm 1 1 = (1, true) := by decide
  have s5 : Li.sm 1 9 = (9, true) := by decide
  have s6 : Li.sm 5 5 = (5, true) := by decide
  have s7 : Li.sm 5 4 = (0, true) := by decide
  have s8 : Li.sm 0 1 = (0, true) := by decide
  have s9 : Li.sm 5 1 = (5, true) := by decide
  have s10 : Li.sm 4 5 = (0, true) := by decide
  have m1 : Li.mk 1000 true = 2001 := by decide
  have v1 : Li.vl 0 true = false := by decide
  have v2 : Li.vl 1 true = true := by decide
  have v3 : Li.vl 8 true = true := by decide
  have v4 : Li.vl 9 true = false := by decide
  go_enter Try.func3, Try.ntmps3
  go_wp2_with fail
  refine wp_loop_rounds 6 ?_
  repeat any_goals (rw [rounds_succ]; go_wp2_with (first
      | (go_at_call 9; refine (neg_no _ _ (by decide)).mono ?_; rintro e w' ⟨rfl, rfl⟩)
      | (go_at_call 10; refine (var_no _ _ (by decide)).mono ?_; rintro e w' ⟨rfl, rfl⟩)
      | (go_at_call 11; refine (and_no _ _ _ (by decide)).mono ?_; rintro e w' ⟨rfl, rfl⟩)
      | (go_at_call 12; refine (value_no _ _ _ (by decide)).mono ?_; rintro e w' ⟨rfl, rfl⟩)
      | (go_at_call 13; refine (lit_no _ _ _ (by decide)).mono ?_; rintro e w' ⟨rfl, rfl⟩)))
  refine wp_loop_rounds 11 ?_
  rw [rounds_succ]; go_wp2_with fail; go_quiet ((go_at_call 11; exact qs (and_yes _ _ _ (by decide) (by decide)))); go_wp2_with fail
  repeat any_goals (rw [rounds_succ]; go_wp2_with fail; go_quiet ((go_at_call 11; exact qs2 (and_yes _ _ _ (by decide) (by decide)))); go_wp2_with fail)
  rw [rounds_succ]
  go_wp2_with (first
      | (go_at_call 13; first | (refine (lit_yes _ _ _ (by decide)).mono ?_; rintro e w' ⟨rfl, rfl⟩) | (refine (lit_no _ _ _ (by decide)).mono ?_; rintro e w' ⟨rfl, rfl⟩))
      | (go_at_call 12; refine (value_yes _ _ _ (by decide)).mono ?_; rintro e w' ⟨rfl, rfl⟩)
      | (go_at_call 14; refine (alive_any _).mono ?_; rintro e w' ⟨rfl, rfl⟩))
  go_ret
  exact ⟨rfl, grown_drewN (by go_grown) _⟩

set_option maxRecDepth 100000 in
theorem lifted (os : Os) (started : os.Started) (H : Type) (enc : TypeId × Value → H) :
    ReturnsInHanded {} Try.checked os 3 .any (Rows.litsNamesSpec.pre6 enc Try.prog Try.f3 Rows.litsNamesRow.domain false) (Rows.litsNamesSpec.post enc Try.prog Try.f3 false true false false) := by
  refine returnsInHanded_of_change (C := Try.checked) own started (by kernel_rfl) Try.func3
    (ChangeSpec.witness6 (enc := enc) (C := Try.checked) false ⟨#[], #[], []⟩ 8 (by kernel_rfl) (by kernel_rfl) (by kernel_rfl) (by kernel_rfl)) ?_
  intro W base args ds gs before hval0 hW hcnd _
  have hval : ∀ (j : Nat) t v, Try.f3.params[j]? = some t → args[j]? = some v → Value.okWide Try.prog W .any base t v := hval0
  have hW' := hW
  obtain ⟨p, q, hA0, hV, rfl, hfz, hnd⟩ := hW
  have hA : DataW.TrodAll enc Try.prog W 0 (fun _ => true) true Try.f3.params.toList args.toList ds p := hA0
  rw [Try.params3] at hA hval
  obtain ⟨rfl, rfl, rfl⟩ := trodAll_none hA
  obtain ⟨rfl, rfl⟩ := trodVars_none hV
  clear hA0 hval0
  simp only [List.append_nil] at hW'
  refine (walk  W).mono fun e W' ⟨he, hg⟩ => ?_
  subst he
  exact ⟨_, rfl, post_of_same (pa := []) (pv := []) hW' (fun _ _ _ => (trodAll_cons_mk (shut_bool Try.underlying4 _) trodAll_mk0)) (fun sp _ => rfl) (fun _ _ => rfl) rfl
    (hg.frame _) hg.2.1 (ok_one (by kernel_rfl) rfl (okWide_bool_mk Try.underlying4 _))⟩

theorem over : Rows.litsNamesRow.holds Try.pinned (OpenSpec.ofChange Rows.litsNamesSpec) :=
  OpenClaim.holds_of_wide 3 Try.f3 rfl rfl rfl rfl rfl rfl rfl ⟨rfl, rfl, rfl, rfl, rfl⟩ rfl rfl rfl rfl rfl (by kernel_rfl) Try.func3 (by kernel_rfl)
    (of_decide_eq_true (by kernel_rfl)) (by unfold Func.isWrapper; first | (rw [if_pos (by decide +kernel)]; kernel_rfl) | (rw [if_neg (by decide +kernel)]; exact ⟨rfl, rfl⟩))
    (fun os started H enc _ => lifted os started H enc)

theorem proved : Rows.LitsNamesSaid :=
  over
end Go.Proofs.Ytmpmnfnhghfaiaa.litsNames
