/- For all numbers and lists of at most 100 numbers: Implies and Resolve return what the reference returns. No conditions. -/
import Derived.Test.YtigfdfbjpelcaaaClRef5
namespace Go.Proofs.Ytigfdfbjpelcaaa.clauseResolves
open Go.ChangeShapes Go.WideShapes Go.ChangeAt Go.RowKit
set_option linter.unusedVariables false
set_option linter.unusedSimpArgs false


theorem own : ownKnob Try.prog.godebug = none := by kernel_rfl

set_option maxRecDepth 100000 in
set_option maxHeartbeats 4000000 in
theorem walk (a0 : Int) (A1 : Option Addr) (l1 : List Int) (k1 : Nat) (A2 : Option Addr) (l2 : List Int) (k2 : Nat) (a3 : Int) (w : World) (w0 : (Lit.int .i64 a0).wf = true) (hm1 : Ia w w.heap.size A1 l1 k1) (hr1 : ∀ x ∈ l1, I64 x) (hm2 : Ia w w.heap.size A2 l2 k2) (hr2 : ∀ x ∈ l2, I64 x) (w3 : (Lit.int .i64 a3).wf = true) :
    Calls Try.prog 4 #[.int .i64 a0, .slice A1 l1.length k1, .slice A2 l2.length k2, .int .i64 a3] w fun e w' => e = .returned (.bool true) ∧ Below w.heap.size w w' := by
  have hv0 := (i64_of w0)
  have hv3 := (i64_of w3)
  clear w0 w3
  by_cases hg : 100 < l1.length
  · obtain ⟨n, hn⟩ : ∃ n, n = l1.length := ⟨_, rfl⟩
    rw [← hn] at hg ⊢
    have g1 : (100 : Int) < (n : Int) := by omega
    clear hm1 hr1 hm2 hr2 hn hg hv0 hv3
    go_enter Try.func4, Try.ntmps4
    go_wp2
    go_ret
    exact ⟨rfl, Below.refl _ _⟩
  · by_cases hg2 : 100 < l2.length
    · obtain ⟨n, hn⟩ : ∃ n, n = l1.length := ⟨_, rfl⟩
      obtain ⟨n', hn'⟩ : ∃ n, n = l2.length := ⟨_, rfl⟩
      rw [← hn] at hg ⊢
      rw [← hn'] at hg2 ⊢
      have g1 : ¬ (100 : Int) < (n : Int) := by omega
      have g2 : (100 : Int) < (n' : Int) := by omega
      clear hm1 hr1 hm2 hr2 hn hn' hg hg2 hv0 hv3
      go_enter Try.func4, Try.ntmps4
      go_wp2
      go_ret
      exact ⟨rfl, Below.refl _ _⟩
    · have D1 := implies_any a0 A1 l1 k1 A2 l2 k2 w hm1 (by omega) hr1 hm2 (by omega) hr2
      have D2 := fun (W : World) (hb : Below w.heap.size w W) => rImplies_any a0 A1 l1 k1 A2 l2 k2 W (hm1.on hb) (by omega) hr1 (hm2.on hb) (by omega) hr2
      have D3 := fun (W : World) (hb : Below w.heap.size w W) => resolve_any a0 A1 l1 k1 A2 l2 k2 a3 W (hm1.on hb) (by omega) hr1 (hm2.on hb) (by omega) hr2
      have D4 := fun (W : World) (hb : Below w.heap.size w W) => rResolve_any a0 A1 l1 k1 A2 l2 k2 a3 W (hm1.on hb) (by omega) hr1 (hm2.on hb) (by omega) hr2
      have hml : (rvC a0 l1 l2 a3).length ≤ 100000 := by
        unfold rvC mkL
        split
        · split
          · refine Nat.le_trans (srt_len _) (Nat.le_trans (List.length_filter_le _ _) ?_)
            rw [List.length_append]; omega
          · exact Nat.zero_le _
        · exact Nat.zero_le _
      generalize rvC a0 l1 l2 a3 = ml at D3 D4 hml
      generalize rvA a0 l1 l2 a3 = ma at D3 D4
      generalize rvE a0 l1 l2 a3 = me at D3 D4
      generalize imB a0 l1 l2 = tb at D1 D2
      generalize imE a0 l1 l2 = te at D1 D2
      have HML := Lib.hid hml
      obtain ⟨n, hn⟩ : ∃ n, n = l1.length := ⟨_, rfl⟩
      obtain ⟨n', hn'⟩ : ∃ n, n = l2.length := ⟨_, rfl⟩
      rw [← hn] at D1 D2 D3 D4 hg ⊢
      rw [← hn'] at D1 D2 D3 D4 hg2 ⊢
      have g1 : ¬ (100 : Int) < (n : Int) := by omega
      have g2 : ¬ (100 : Int) < (n' : Int) := by omega
      have e1 : (ma == ma) = true := by simp
      have e2 : (me == me) = true := by simp
      have e3 : (tb == tb) = true := by simp
      have e4 : (te == te) = true := by simp
      clear hm1 hr1 hm2 hr2 hn hn' hg hg2 hml hv0 hv3
      go_enter Try.func4, Try.ntmps4
      go_wp2_with (first
        | (go_at_call 17; (with_reducible refine D1.mono ?_); rintro e w1 ⟨rfl, hb1⟩)
        | (go_at_call 18; (with_reducible refine (D2 w1 hb1).mono ?_); rintro e w2 ⟨rfl, hb2⟩
           have hB2 : Below w.heap.size w w2 := Below.step hb1 hb1.size hb2)
        | (go_at_call 19; (with_reducible refine (D3 w2 hB2).mono ?_); rintro e w3 ⟨A5, k5, rfl, hI5, hb3⟩
           have hB3 : Below w.heap.size w w3 := Below.step hB2 hB2.size hb3)
        | (go_at_call 20; (with_reducible refine (D4 w3 hB3).mono ?_); rintro e w4 ⟨A6, k6, rfl, hI6, hb4⟩
           have hB4 : Below w.heap.size w w4 := Below.step hB3 hB3.size hb4
           have hs := rSame_any A5 ml k5 A6 ml k6 w4 (hI5.on hb4) HML.out hI6 HML.out
           rw [sm_self] at hs)
        | (go_at_call 14; (with_reducible refine hs.mono ?_); rintro e w5 ⟨rfl, hb7⟩
           have hB5 : Below w.heap.size w w5 := Below.step hB4 hB4.size hb7))
      go_ret
      exact ⟨rfl, hB5⟩

set_option maxRecDepth 100000 in
theorem lifted (os : Os) (started : os.Started) (H : Type) (enc : TypeId × Value → H) :
    ReturnsInHanded {} Try.checked os 4 .any (Rows.clauseResolvesSpec.pre6 enc Try.prog Try.f4 Rows.clauseResolvesRow.domain false) (Rows.clauseResolvesSpec.post enc Try.prog Try.f4 false true false false) := by
  refine returnsInHanded_of_change (C := Try.checked) own started (by kernel_rfl) Try.func4
    (ChangeSpec.witness6 (enc := enc) (C := Try.checked) false ⟨#[], #[.int .i64 0, .slice none 0 0, .slice none 0 0, .int .i64 0], []⟩ 12 (by kernel_rfl) (by kernel_rfl) (by kernel_rfl) (by kernel_rfl)) ?_
  intro W base args ds gs before hval0 hW hcnd _
  have hval : ∀ (j : Nat) t v, Try.f4.params[j]? = some t → args[j]? = some v → Value.okWide Try.prog W .any base t v := hval0
  have hW' := hW
  have hlt : ∀ x ∈ before, x.block < W.heap.size := fun x hx => by simpa using hW'.lt x hx
  obtain ⟨p, q, hA0, hV, rfl, hfz, hnd⟩ := hW
  have hA : DataW.TrodAll enc Try.prog W 0 (fun _ => true) true Try.f4.params.toList args.toList ds p := hA0
  rw [Try.params4] at hA hval
  obtain ⟨v0, vs0, d0, ds0, b0, q0, hargs, rfl, rfl, h0, r0⟩ := trodAll_cons hA
  obtain ⟨v1, vs1, d1, ds1, b1, q1, rfl, rfl, rfl, h1, r1⟩ := trodAll_cons r0
  obtain ⟨v2, vs2, d2, ds2, b2, q2, rfl, rfl, rfl, h2, r2⟩ := trodAll_cons r1
  obtain ⟨v3, vs3, d3, ds3, b3, q3, rfl, rfl, rfl, h3, r3⟩ := trodAll_cons r2
  obtain ⟨rfl, rfl, rfl⟩ := trodAll_nil r3
  obtain rfl : args = #[v0, v1, v2, v3] := by cases args; simp_all
  obtain ⟨rfl, rfl⟩ := trodVars_none hV
  obtain ⟨a0, rfl, rfl, rfl, w0⟩ := open_int Try.underlying3 (hval 0 3 v0 rfl rfl) h0
  obtain ⟨A1, l1, k1, rfl, hm1, hK1, hr1⟩ := open_is (hval 1 22 v1 rfl rfl) h1
  obtain ⟨A2, l2, k2, rfl, hm2, hK2, hr2⟩ := open_is (hval 2 22 v2 rfl rfl) h2
  obtain ⟨a3, rfl, rfl, rfl, w3⟩ := open_int Try.underlying3 (hval 3 3 v3 rfl rfl) h3
  have hlo : laidOutB Try.prog = true := by kernel_rfl
  clear hA0 hval0
  simp only [List.append_nil] at hW' hlt
  refine (walk a0 A1 l1 k1 A2 l2 k2 a3 W w0 hm1 hr1 hm2 hr2 w3).mono fun e W' ⟨he, hb⟩ => ?_
  subst he
  have hback := (trodAll_cons_mk (shut_int (enc := enc) (w := W') (base := 0) (spare := fun b => decide (b < W.heap.size)) (held := true) Try.underlying3 w0) (trodAll_cons_mk (arg_back (W' := W') hlo (by kernel_rfl) (of_decide_eq_true (by kernel_rfl)) h1 hb (fun x hx => hlt x (by simp [hx]))) (trodAll_cons_mk (arg_back (W' := W') hlo (by kernel_rfl) (of_decide_eq_true (by kernel_rfl)) h2 hb (fun x hx => hlt x (by simp [hx]))) (trodAll_cons_mk (shut_int (enc := enc) (w := W') (base := 0) (spare := fun b => decide (b < W.heap.size)) (held := true) Try.underlying3 w3) trodAll_mk0))))
  simp only [List.append_nil, List.nil_append] at hback
  exact ⟨_, rfl, law_post hW' (trodAll_cons_mk (shut_bool Try.underlying4 _) trodAll_mk0) hback rfl hb⟩

theorem over : Rows.clauseResolvesRow.holds Try.pinned (OpenSpec.ofChange Rows.clauseResolvesSpec) :=
  OpenClaim.holds_of_wide 4 Try.f4 rfl rfl rfl rfl rfl rfl rfl ⟨rfl, rfl, rfl, rfl, rfl⟩ rfl rfl rfl rfl rfl (by kernel_rfl) Try.func4 (by kernel_rfl)
    (of_decide_eq_true (by kernel_rfl)) (by unfold Func.isWrapper; first | (rw [if_pos (by decide +kernel)]; kernel_rfl) | (rw [if_neg (by decide +kernel)]; exact ⟨rfl, rfl⟩))
    (fun os started H enc _ => lifted os started H enc)

theorem proved : Rows.ClauseResolvesSaid :=
  over
end Go.Proofs.Ytigfdfbjpelcaaa.clauseResolves
