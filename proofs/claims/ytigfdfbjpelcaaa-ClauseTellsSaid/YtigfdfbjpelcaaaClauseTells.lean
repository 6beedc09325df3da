/- For all numbers, lists of at most 100 numbers, and at most 5,000 values: Make, True and Check return what the reference returns. No conditions. -/
import Derived.Test.YtigfdfbjpelcaaaClRef4
namespace Go.Proofs.Ytigfdfbjpelcaaa.clauseTells
open Go.ChangeShapes Go.WideShapes Go.ChangeAt Go.RowKit
set_option linter.unusedVariables false
set_option linter.unusedSimpArgs false


theorem own : ownKnob Try.prog.godebug = none := by kernel_rfl

set_option maxRecDepth 100000 in
set_option maxHeartbeats 4000000 in
theorem walk (a0 : Int) (A1 : Option Addr) (l1 : List Int) (k1 : Nat) (A2 : Option Addr) (n2 k2 : Nat) (f2 : Nat → Bool) (w : World) (w0 : (Lit.int .i64 a0).wf = true) (hm1 : Ia w w.heap.size A1 l1 k1) (hr1 : ∀ x ∈ l1, I64 x) (hm2 : BlsAt w w.heap.size A2 n2 f2) (hN2 : A2 = none → n2 = 0 ∧ k2 = 0) (hC2 : n2 ≤ k2 ∧ k2 ≤ maxLen) :
    Calls Try.prog 3 #[.int .i64 a0, .slice A1 l1.length k1, .slice A2 n2 k2] w fun e w' => e = .returned (.bool true) ∧ Below w.heap.size w w' := by
  have hv0 := (i64_of w0)
  unfold I64 at hv0
  clear w0
  by_cases hg : 100 < l1.length
  · obtain ⟨n, hn⟩ : ∃ n, n = l1.length := ⟨_, rfl⟩
    rw [← hn] at hg ⊢
    have g1 : (100 : Int) < (n : Int) := by omega
    clear hm1 hr1 hm2 hN2 hC2 hn hg
    go_enter Try.func3, Try.ntmps3
    go_wp2
    go_ret
    exact ⟨rfl, Below.refl _ _⟩
  · by_cases hg2 : 5000 < n2
    · obtain ⟨n, hn⟩ : ∃ n, n = l1.length := ⟨_, rfl⟩
      rw [← hn] at hg ⊢
      have g1 : ¬ (100 : Int) < (n : Int) := by omega
      have g2 : (5000 : Int) < (n2 : Int) := by omega
      clear hm1 hr1 hm2 hN2 hC2 hn hg hg2
      go_enter Try.func3, Try.ntmps3
      go_wp2
      go_ret
      exact ⟨rfl, Below.refl _ _⟩
    · have D1 := make_any a0 A1 l1 k1 w hm1 (by omega) hr1
      have D2 := fun (W : World) (hb : Below w.heap.size w W) => rMake_any a0 A1 l1 k1 W (hm1.on hb) (by omega)
      have D3 := fun (W : World) (hb : Below w.heap.size w W) => true_any A1 l1 k1 A2 n2 k2 f2 W (hm1.on hb) (by omega) hr1 (hm2.to hb hb.size) (by omega)
      have D4 := fun (W : World) (hb : Below w.heap.size w W) => rTrue_any A1 l1 k1 A2 n2 k2 f2 W (hm1.on hb) (by omega) hr1 (hm2.to hb hb.size) (by omega)
      have D5 := fun (W : World) (hb : Below w.heap.size w W) => check_any a0 A1 l1 k1 W (hm1.on hb) (by omega) hr1
      have D6 := fun (W : World) (hb : Below w.heap.size w W) => rCheck_any a0 A1 l1 k1 W (hm1.on hb) (by omega) hr1
      have hml : (mkL a0 l1).length ≤ 100000 := by
        unfold mkL
        split
        · exact Nat.le_trans (srt_len l1) (by omega)
        · exact Nat.zero_le _
      generalize mkL a0 l1 = ml at D1 D2 hml
      generalize mkA a0 l1 = ma at D1 D2
      generalize mkE a0 l1 = me at D1 D2
      generalize trB n2 f2 l1 = tb at D3 D4
      generalize ckE n2 l1 = te at D3 D4
      generalize ckE a0 l1 = ce at D5 D6
      have HML := Lib.hid hml
      obtain ⟨n, hn⟩ : ∃ n, n = l1.length := ⟨_, rfl⟩
      rw [← hn] at D1 D2 D3 D4 D5 D6 hg ⊢
      have g1 : ¬ (100 : Int) < (n : Int) := by omega
      have g2 : ¬ (5000 : Int) < (n2 : Int) := by omega
      have e1 : (ma == ma) = true := by simp
      have e2 : (me == me) = true := by simp
      have e3 : (tb == tb) = true := by simp
      have e4 : (te == te) = true := by simp
      have e5 : (ce == ce) = true := by simp
      clear hm1 hr1 hm2 hN2 hC2 hn hg hg2 hml
      go_enter Try.func3, Try.ntmps3
      go_wp2_with (first
        | (go_at_call 10; (with_reducible refine D1.mono ?_); rintro e w1 ⟨A5, k5, rfl, hI5, hb5⟩)
        | (go_at_call 11; (with_reducible refine (D2 w1 hb5).mono ?_); rintro e w2 ⟨A6, k6, rfl, hI6, hb6⟩
           have hB2 : Below w.heap.size w w2 := Below.step hb5 hb5.size hb6)
        | (go_at_call 12; (with_reducible refine (D3 w2 hB2).mono ?_); rintro e w3 ⟨rfl, hb3⟩
           have hB3 : Below w.heap.size w w3 := Below.step hB2 hB2.size hb3)
        | (go_at_call 13; (with_reducible refine (D4 w3 hB3).mono ?_); rintro e w4 ⟨rfl, hb4⟩
           have hB4 : Below w.heap.size w w4 := Below.step hB3 hB3.size hb4
           have hs := rSame_any A5 ml k5 A6 ml k6 w4 (((hI5.on hb6).on hb3).on hb4) HML.out ((hI6.on hb3).on hb4) HML.out
           rw [sm_self] at hs)
        | (go_at_call 14; (with_reducible refine hs.mono ?_); rintro e w5 ⟨rfl, hb7⟩
           have hB5 : Below w.heap.size w w5 := Below.step hB4 hB4.size hb7)
        | (go_at_call 15; (with_reducible refine (D5 w5 hB5).mono ?_); rintro e w6 ⟨rfl, d6, rfl⟩)
        | (go_at_call 16; (with_reducible refine (D6 _ (below_dn hB5 d6)).mono ?_); rintro e w7 ⟨rfl, d7, rfl⟩))
      go_ret
      exact ⟨rfl, by first | exact below_dn hB5 _ | exact below_dn (below_dn hB5 _) _⟩

set_option maxRecDepth 100000 in
theorem lifted (os : Os) (started : os.Started) (H : Type) (enc : TypeId × Value → H) :
    ReturnsInHanded {} Try.checked os 3 .any (Rows.clauseTellsSpec.pre6 enc Try.prog Try.f3 Rows.clauseTellsRow.domain false) (Rows.clauseTellsSpec.post enc Try.prog Try.f3 false true false false) := by
  refine returnsInHanded_of_change (C := Try.checked) own started (by kernel_rfl) Try.func3
    (ChangeSpec.witness6 (enc := enc) (C := Try.checked) false ⟨#[], #[.int .i64 0, .slice none 0 0, .slice none 0 0], []⟩ 12 (by kernel_rfl) (by kernel_rfl) (by kernel_rfl) (by kernel_rfl)) ?_
  intro W base args ds gs before hval0 hW hcnd _
  have hval : ∀ (j : Nat) t v, Try.f3.params[j]? = some t → args[j]? = some v → Value.okWide Try.prog W .any base t v := hval0
  have hW' := hW
  have hlt : ∀ x ∈ before, x.block < W.heap.size := fun x hx => by simpa using hW'.lt x hx
  obtain ⟨p, q, hA0, hV, rfl, hfz, hnd⟩ := hW
  have hA : DataW.TrodAll enc Try.prog W 0 (fun _ => true) true Try.f3.params.toList args.toList ds p := hA0
  rw [Try.params3] at hA hval
  obtain ⟨v0, vs0, d0, ds0, b0, q0, hargs, rfl, rfl, h0, r0⟩ := trodAll_cons hA
  obtain ⟨v1, vs1, d1, ds1, b1, q1, rfl, rfl, rfl, h1, r1⟩ := trodAll_cons r0
  obtain ⟨v2, vs2, d2, ds2, b2, q2, rfl, rfl, rfl, h2, r2⟩ := trodAll_cons r1
  obtain ⟨rfl, rfl, rfl⟩ := trodAll_nil r2
  obtain rfl : args = #[v0, v1, v2] := by cases args; simp_all
  obtain ⟨rfl, rfl⟩ := trodVars_none hV
  obtain ⟨a0, rfl, rfl, rfl, w0⟩ := open_int Try.underlying3 (hval 0 3 v0 rfl rfl) h0
  obtain ⟨A1, l1, k1, rfl, hm1, hK1, hr1⟩ := open_is (hval 1 22 v1 rfl rfl) h1
  obtain ⟨A2, n2, k2, f2, rfl, hm2, hN2, hC2⟩ := open_bl (hval 2 23 v2 rfl rfl) h2
  have hlo : laidOutB Try.prog = true := by kernel_rfl
  clear hA0 hval0
  simp only [List.append_nil] at hW' hlt
  refine (walk a0 A1 l1 k1 A2 n2 k2 f2 W w0 hm1 hr1 hm2 hN2 hC2).mono fun e W' ⟨he, hb⟩ => ?_
  subst he
  have hback := (trodAll_cons_mk (shut_int (enc := enc) (w := W') (base := 0) (spare := fun b => decide (b < W.heap.size)) (held := true) Try.underlying3 w0) (trodAll_cons_mk (arg_back (W' := W') hlo (by kernel_rfl) (of_decide_eq_true (by kernel_rfl)) h1 hb (fun x hx => hlt x (by simp [hx]))) (trodAll_cons_mk (arg_back (W' := W') hlo (by kernel_rfl) (of_decide_eq_true (by kernel_rfl)) h2 hb (fun x hx => hlt x (by simp [hx]))) trodAll_mk0)))
  simp only [List.append_nil, List.nil_append] at hback
  exact ⟨_, rfl, law_post hW' (trodAll_cons_mk (shut_bool Try.underlying4 _) trodAll_mk0) hback rfl hb⟩

theorem over : Rows.clauseTellsRow.holds Try.pinned (OpenSpec.ofChange Rows.clauseTellsSpec) :=
  OpenClaim.holds_of_wide 3 Try.f3 rfl rfl rfl rfl rfl rfl rfl ⟨rfl, rfl, rfl, rfl, rfl⟩ rfl rfl rfl rfl rfl (by kernel_rfl) Try.func3 (by kernel_rfl)
    (of_decide_eq_true (by kernel_rfl)) (by unfold Func.isWrapper; first | (rw [if_pos (by decide +kernel)]; kernel_rfl) | (rw [if_neg (by decide +kernel)]; exact ⟨rfl, rfl⟩))
    (fun os started H enc _ => lifted os started H enc)

theorem proved : Rows.ClauseTellsSaid :=
  over
end Go.Proofs.Ytigfdfbjpelcaaa.clauseTells
