/- For all bytes a, b, c: where they are truth values, AND does not depend on the order, nor on which two of three are taken first; negation twice is nothing; TeTrue changes nothing, TeFalse makes all false, and a value with itself is itself. No conditions. -/
import Derived.Test.YthpifibemekmcaaTernKit
namespace Go.Proofs.Ythpifibemekmcaa.ternaryTable
open Go.ChangeShapes Go.WideShapes Go.ChangeAt Go.RowKit
set_option linter.unusedVariables false
set_option linter.unusedSimpArgs false


theorem own : ownKnob Try.prog.godebug = none := by kernel_rfl

set_option maxRecDepth 100000 in
set_option maxHeartbeats 4000000 in
theorem walk (a0 : Int) (a1 : Int) (a2 : Int) (w : World) (w0 : (Lit.int .u8 a0).wf = true) (w1 : (Lit.int .u8 a1).wf = true) (w2 : (Lit.int .u8 a2).wf = true) :
    Calls Try.prog 8 #[.int .u8 a0, .int .u8 a1, .int .u8 a2] w fun e w' => e = .returned (.bool true) ∧ Below w.heap.size w w' := by
  have ha := u8_of w0
  have hb := u8_of w1
  have hc := u8_of w2
  clear w0 w1 w2
  rcases u8_ways ha.1 with h0 | h0
  · rcases u8_ways hb.1 with h1 | h1
    · rcases u8_ways hc.1 with h2 | h2
      · have D1 := Lib.hid (tNot_yes h0 w)
        have D2 := Lib.hid (tNot_yes (tneg_isT a0) w)
        have D3 := Lib.hid (both_any h0 h1 w)
        have D4 := Lib.hid (both_any h1 h0 w)
        have D5 := Lib.hid (both_any (tand_isT a0 a1) h2 w)
        have D6 := Lib.hid (both_any h1 h2 w)
        have D7 := Lib.hid (both_any h0 (tand_isT a1 a2) w)
        have D8 := Lib.hid (both_any h0 isT1 w)
        have D9 := Lib.hid (both_any h0 isT0 w)
        have D10 := Lib.hid (both_any h0 h0 w)
        have E1 : (tneg (tneg a0) == a0) = true := by rcases h0 with rfl | rfl | rfl <;> decide
        have E2 : (tand a0 a1 == tand a1 a0) = true := by rcases h0 with rfl | rfl | rfl <;> rcases h1 with rfl | rfl | rfl <;> decide
        have E3 : (tand (tand a0 a1) a2 == tand a0 (tand a1 a2)) = true := by rcases h0 with rfl | rfl | rfl <;> rcases h1 with rfl | rfl | rfl <;> rcases h2 with rfl | rfl | rfl <;> decide
        have E4 : (tand a0 1 == a0) = true := by rcases h0 with rfl | rfl | rfl <;> decide
        have E5 : (tand a0 0 == 0) = true := by rcases h0 with rfl | rfl | rfl <;> decide
        have E6 : (tand a0 a0 == a0) = true := by rcases h0 with rfl | rfl | rfl <;> decide
        have z0 := h0.lo
        have z1 := h1.lo
        have z2 := h2.lo
        have n0 : ¬ a0 > 2 := by omega
        have n1 : ¬ a1 > 2 := by omega
        have n2 : ¬ a2 > 2 := by omega
        clear h0 h1 h2 ha hb hc
        go_enter Try.func8, Try.ntmps8
        go_wp2_with (first
          | (go_at_call 12; (with_reducible refine D1.out.mono ?_); rintro e wa ⟨rfl, rfl⟩)
          | (go_at_call 12; (with_reducible refine D2.out.mono ?_); rintro e wa ⟨rfl, rfl⟩)
          | (go_at_call 14; (with_reducible refine D3.out.mono ?_); rintro e wa ⟨rfl, rfl⟩)
          | (go_at_call 14; (with_reducible refine D4.out.mono ?_); rintro e wa ⟨rfl, rfl⟩)
          | (go_at_call 14; (with_reducible refine D5.out.mono ?_); rintro e wa ⟨rfl, rfl⟩)
          | (go_at_call 14; (with_reducible refine D6.out.mono ?_); rintro e wa ⟨rfl, rfl⟩)
          | (go_at_call 14; (with_reducible refine D7.out.mono ?_); rintro e wa ⟨rfl, rfl⟩)
          | (go_at_call 14; (with_reducible refine D8.out.mono ?_); rintro e wa ⟨rfl, rfl⟩)
          | (go_at_call 14; (with_reducible refine D9.out.mono ?_); rintro e wa ⟨rfl, rfl⟩)
          | (go_at_call 14; (with_reducible refine D10.out.mono ?_); rintro e wa ⟨rfl, rfl⟩)
          | (go_at_call 20; (with_reducible refine (alive5_any w).mono ?_); rintro e wz ⟨rfl, hbz⟩))
        go_ret
        exact ⟨rfl, hbz⟩
      · have z0 := h0.lo
        have z1 := h1.lo
        have n0 : ¬ a0 > 2 := by omega
        have n1 : ¬ a1 > 2 := by omega
        clear h0 h1
        go_enter Try.func8, Try.ntmps8
        go_wp2_with (go_at_call 20; (with_reducible refine (alive5_any w).mono ?_); rintro e wz ⟨rfl, hbz⟩)
        go_ret
        exact ⟨rfl, hbz⟩
    · have z0 := h0.lo
      have n0 : ¬ a0 > 2 := by omega
      clear h0
      go_enter Try.func8, Try.ntmps8
      go_wp2_with (go_at_call 20; (with_reducible refine (alive5_any w).mono ?_); rintro e wz ⟨rfl, hbz⟩)
      go_ret
      exact ⟨rfl, hbz⟩
  · go_enter Try.func8, Try.ntmps8
    go_wp2_with (go_at_call 20; (with_reducible refine (alive5_any w).mono ?_); rintro e wz ⟨rfl, hbz⟩)
    go_ret
    exact ⟨rfl, hbz⟩

set_option maxRecDepth 100000 in
theorem lifted (os : Os) (started : os.Started) (H : Type) (enc : TypeId × Value → H) :
    ReturnsInHanded {} Try.checked os 8 .any (Rows.ternaryTableSpec.pre6 enc Try.prog Try.f8 Rows.ternaryTableRow.domain false) (Rows.ternaryTableSpec.post enc Try.prog Try.f8 false true false false) := by
  refine returnsInHanded_of_change (C := Try.checked) own started (by kernel_rfl) Try.func8
    (ChangeSpec.witness6 (enc := enc) (C := Try.checked) false ⟨#[], #[.int .u8 0, .int .u8 0, .int .u8 0], []⟩ 12 (by kernel_rfl) (by kernel_rfl) (by kernel_rfl) (by kernel_rfl)) ?_
  intro W base args ds gs before hval0 hW hcnd _
  have hval : ∀ (j : Nat) t v, Try.f8.params[j]? = some t → args[j]? = some v → Value.okWide Try.prog W .any base t v := hval0
  have hW' := hW
  have hlt : ∀ x ∈ before, x.block < W.heap.size := fun x hx => by simpa using hW'.lt x hx
  obtain ⟨p, q, hA0, hV, rfl, hfz, hnd⟩ := hW
  have hA : DataW.TrodAll enc Try.prog W 0 (fun _ => true) true Try.f8.params.toList args.toList ds p := hA0
  rw [Try.params8] at hA hval
  obtain ⟨v0, vs0, d0, ds0, b0, q0, hargs, rfl, rfl, h0, r0⟩ := trodAll_cons hA
  obtain ⟨v1, vs1, d1, ds1, b1, q1, rfl, rfl, rfl, h1, r1⟩ := trodAll_cons r0
  obtain ⟨v2, vs2, d2, ds2, b2, q2, rfl, rfl, rfl, h2, r2⟩ := trodAll_cons r1
  obtain ⟨rfl, rfl, rfl⟩ := trodAll_nil r2
  obtain rfl : args = #[v0, v1, v2] := by cases args; simp_all
  obtain ⟨rfl, rfl⟩ := trodVars_none hV
  obtain ⟨a0, rfl, rfl, rfl, w0⟩ := open_u8 (hval 0 5 v0 rfl rfl) h0
  obtain ⟨a1, rfl, rfl, rfl, w1⟩ := open_u8 (hval 1 5 v1 rfl rfl) h1
  obtain ⟨a2, rfl, rfl, rfl, w2⟩ := open_u8 (hval 2 5 v2 rfl rfl) h2
  have hlo : laidOutB Try.prog = true := by kernel_rfl
  clear hA0 hval0
  simp only [List.append_nil] at hW' hlt
  refine (walk a0 a1 a2 W w0 w1 w2).mono fun e W' ⟨he, hb⟩ => ?_
  subst he
  have hback := (trodAll_cons_mk (shut_int (enc := enc) (w := W') (base := 0) (spare := fun b => decide (b < W.heap.size)) (held := true) Try.underlying5 w0) (trodAll_cons_mk (shut_int (enc := enc) (w := W') (base := 0) (spare := fun b => decide (b < W.heap.size)) (held := true) Try.underlying5 w1) (trodAll_cons_mk (shut_int (enc := enc) (w := W') (base := 0) (spare := fun b => decide (b < W.heap.size)) (held := true) Try.underlying5 w2) trodAll_mk0)))
  simp only [List.append_nil, List.nil_append] at hback
  exact ⟨_, rfl, law_post hW' (trodAll_cons_mk (shut_bool Try.underlying4 _) trodAll_mk0) hback rfl hb⟩

theorem over : Rows.ternaryTableRow.holds Try.pinned (OpenSpec.ofChange Rows.ternaryTableSpec) :=
  OpenClaim.holds_of_wide 8 Try.f8 rfl rfl rfl rfl rfl rfl rfl ⟨rfl, rfl, rfl, rfl, rfl⟩ rfl rfl rfl rfl rfl (by kernel_rfl) Try.func8 (by kernel_rfl)
    (of_decide_eq_true (by kernel_rfl)) (by unfold Func.isWrapper; first | (rw [if_pos (by decide +kernel)]; kernel_rfl) | (rw [if_neg (by decide +kernel)]; exact ⟨rfl, rfl⟩))
    (fun os started H enc _ => lifted os started H enc)

theorem proved : Rows.TernaryTableSaid :=
  over
end Go.Proofs.Ythpifibemekmcaa.ternaryTable
