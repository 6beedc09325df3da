/- For any variable, gates, number and bytes: Pack and Unpack return the reference's results and errors. No conditions. -/
import Derived.Test.YtafhdckcclhjlaaDeltaKit2
import Derived.Test.YtafhdckcclhjlaaGatesFrame
namespace Go.Proofs.Ytafhdckcclhjlaa.deltasGates
open Go.ChangeShapes Go.WideShapes Go.ChangeAt Go.RowKit
set_option linter.unusedVariables false
set_option linter.unusedSimpArgs false


theorem own : ownKnob Try.prog.godebug = none := by kernel_rfl

set_option maxRecDepth 100000 in
set_option maxHeartbeats 4000000 in
theorem walk (a0 : Int) (A1 : Option Addr) (n1 k1 : Nat) (f1 g1 : Nat → Int) (a2 : Int) (A3 : Option Addr) (l3 : List UInt8) (k3 : Nat) (w : World) (w0 : (Lit.int .i64 a0).wf = true) (hm1 : Gts w w.heap.size A1 n1 k1 f1 g1) (w2 : (Lit.int .i64 a2).wf = true) (hm3 : Bya w w.heap.size A3 l3 k3) :
    Calls Try.prog 5 #[.int .i64 a0, .slice A1 n1 k1, .int .i64 a2, .slice A3 l3.length k3] w fun e w' => e = .returned (.bool true) ∧ Below w.heap.size w w' := by
  obtain ⟨L, hL⟩ : ∃ L, l3.length = L := ⟨_, rfl⟩
  by_cases h1 : n1 ≤ 150
  · by_cases h2 : L ≤ 1000
    · have i0 := i64_of w0
      have i2 := i64_of w2
      have C1 := dPack_any i0 A1 n1 k1 f1 g1 w hm1 (by omega)
      have C2 := fun (W : World) (hW : Below w.heap.size w W) => rPack_any i0 A1 n1 k1 f1 g1 W (hm1.to hW hW.size) (by omega)
      have C3 := fun (W : World) (hW : Below w.heap.size w W) => dUnpack_any i0 i2 A3 l3 k3 W (hm3.to hW hW.size) (by omega)
      have C4 := fun (W : World) (hW : Below w.heap.size w W) => rUnpack_any i0 i2 A3 l3 k3 W (hm3.to hW hW.size) (by omega)
      have hnu := unN_le (v := a0) (n := a2) (l := l3)
      unfold ByErr at C1 C2
      unfold GsErr at C3 C4
      rw [hL] at C3 C4 ⊢
      obtain ⟨x, hx⟩ : ∃ x, pkL a0 f1 g1 n1 = x := ⟨_, rfl⟩
      obtain ⟨e1, he1⟩ : ∃ x, pkE a0 f1 g1 n1 = x := ⟨_, rfl⟩
      obtain ⟨e2, he2⟩ : ∃ x, unE a0 a2 l3 = x := ⟨_, rfl⟩
      obtain ⟨N, hN⟩ : ∃ x, unN a0 a2 l3 = x := ⟨_, rfl⟩
      obtain ⟨s, hs⟩ : ∃ x, (unS a0 a2 l3 : Int) = x := ⟨_, rfl⟩
      obtain ⟨m, hm⟩ : ∃ m, x.length = m := ⟨_, rfl⟩
      obtain ⟨S, hS⟩ : ∃ S, bstr x = S := ⟨_, rfl⟩
      rw [hx, he1] at C1 C2
      rw [he2, hN, hs] at C3 C4
      rw [hN] at hnu
      have HS : Hid (∀ w1 W A k, Bya w1 w1.heap.size A x k → Below w1.heap.size w1 W → (convert 25 9 (.slice A m k)).run Try.prog W = .ok (.string S) W) := Lib.hid fun w1 W A k hy hb => by rw [← hm]; exact hy.s hb hS
      have HSame : Hid (∀ W A A' k k' B B', PairsAt W B A N (unA a0 a2 l3) (unB a0 a2 l3) → PairsAt W B' A' N (unA a0 a2 l3) (unB a0 a2 l3) → Calls Try.prog 15 #[.slice A N k, .slice A' N k'] W fun e w' => e = .returned (.bool true) ∧ Below W.heap.size W w') := Lib.hid fun W A A' k k' B B' h h' => same9_yes A A' N k k' _ _ B B' W (by omega) h h'
      rw [hm] at C1 C2
      have D1 := Lib.hid C1
      have D2 := Lib.hid C2
      have D3 := Lib.hid C3
      have D4 := Lib.hid C4
      clear C1 C2 C3 C4 hx he1 he2 hN hs hm hS hL hm1 hm3 i0 i2
      go_enter Try.func5, Try.ntmps5
      go_wp2_with (first
        | (go_at_call 13; (with_reducible refine D1.out.mono ?_); rintro e wa ⟨Aa, ka, rfl, hya, hba, _⟩)
        | (go_at_call 20; (with_reducible refine (D2.out wa hba).mono ?_); rintro e wb ⟨Ab, kb, rfl, hyb, hbb, _⟩; have hBb : Below w.heap.size w wb := Below.step hba hba.size hbb)
        | (go_at_call 14; (with_reducible refine (D3.out wb hBb).mono ?_); rintro e wc ⟨Ac, kc, rfl, hyc, hbc⟩; have hBc : Below w.heap.size w wc := Below.step hBb hBb.size hbc)
        | (go_at_call 21; (with_reducible refine (D4.out wc hBc).mono ?_); rintro e wd ⟨Ad, kd, rfl, hyd, hbd⟩; have hBd : Below w.heap.size w wd := Below.step hBc hBc.size hbd; have hbbd : Below wb.heap.size wb wd := Below.step hbc hbc.size hbd; have s1 := HS.out wa wd Aa ka hya (Below.step hbb hbb.size hbbd); have s2 := HS.out wb wd Ab kb hyb hbbd)
        | (go_at_call 15; (with_reducible refine (HSame.out wd Ac Ad kc kd _ _ (hyc.to hbd hbd.size).h hyd.h).mono ?_); rintro e we ⟨rfl, hbe⟩; have hBe : Below w.heap.size w we := Below.step hBd hBd.size hbe))
      go_ret
      exact ⟨by simp, hBe⟩
    · rw [hL]
      clear hL
      go_enter Try.func5, Try.ntmps5
      go_wp2
      go_ret
      exact ⟨rfl, Below.refl _ _⟩
  · go_enter Try.func5, Try.ntmps5
    go_wp2
    go_ret
    exact ⟨rfl, Below.refl _ _⟩

set_option maxRecDepth 100000 in
theorem lifted (os : Os) (started : os.Started) (H : Type) (enc : TypeId × Value → H) :
    ReturnsInHanded {} Try.checked os 5 .any (Rows.deltasGatesSpec.pre6 enc Try.prog Try.f5 Rows.deltasGatesRow.domain false) (Rows.deltasGatesSpec.post enc Try.prog Try.f5 false true false false) := by
  refine returnsInHanded_of_change (C := Try.checked) own started (by kernel_rfl) Try.func5
    (ChangeSpec.witness6 (enc := enc) (C := Try.checked) false ⟨#[], #[.int .i64 0, .slice none 0 0, .int .i64 0, .slice none 0 0], []⟩ 12 (by kernel_rfl) (by kernel_rfl) (by kernel_rfl) (by kernel_rfl)) ?_
  intro W base args ds gs before hval0 hW hcnd _
  have hval : ∀ (j : Nat) t v, Try.f5.params[j]? = some t → args[j]? = some v → Value.okWide Try.prog W .any base t v := hval0
  have hW' := hW
  have hlt : ∀ x ∈ before, x.block < W.heap.size := fun x hx => by simpa using hW'.lt x hx
  obtain ⟨p, q, hA0, hV, rfl, hfz, hnd⟩ := hW
  have hA : DataW.TrodAll enc Try.prog W 0 (fun _ => true) true Try.f5.params.toList args.toList ds p := hA0
  rw [Try.params5] at hA hval
  obtain ⟨v0, vs0, d0, ds0, b0, q0, hargs, rfl, rfl, h0, r0⟩ := trodAll_cons hA
  obtain ⟨v1, vs1, d1, ds1, b1, q1, rfl, rfl, rfl, h1, r1⟩ := trodAll_cons r0
  obtain ⟨v2, vs2, d2, ds2, b2, q2, rfl, rfl, rfl, h2, r2⟩ := trodAll_cons r1
  obtain ⟨v3, vs3, d3, ds3, b3, q3, rfl, rfl, rfl, h3, r3⟩ := trodAll_cons r2
  obtain ⟨rfl, rfl, rfl⟩ := trodAll_nil r3
  obtain rfl : args = #[v0, v1, v2, v3] := by cases args; simp_all
  obtain ⟨rfl, rfl⟩ := trodVars_none hV
  obtain ⟨a0, rfl, rfl, rfl, w0⟩ := open_int Try.underlying3 (hval 0 3 v0 rfl rfl) h0
  obtain ⟨A1, n1, k1, f1, g1, rfl, hp1, hN1, hf1, hg1, hK1⟩ := open_gs (hval 1 30 v1 rfl rfl) h1
  have hm1 : Gts W W.heap.size A1 n1 k1 f1 g1 := ⟨hp1, hN1, hf1, hg1⟩
  obtain ⟨a2, rfl, rfl, rfl, w2⟩ := open_int Try.underlying3 (hval 2 3 v2 rfl rfl) h2
  obtain ⟨A3, l3, k3, rfl, hm3, hK3⟩ := open_by (hval 3 25 v3 rfl rfl) h3
  have hlo : laidOutB Try.prog = true := by kernel_rfl
  clear hA0 hval0
  simp only [List.append_nil] at hW' hlt
  refine (walk a0 A1 n1 k1 f1 g1 a2 A3 l3 k3 W w0 hm1 w2 hm3).mono fun e W' ⟨he, hb⟩ => ?_
  subst he
  have hback := (trodAll_cons_mk (shut_int (enc := enc) (w := W') (base := 0) (spare := fun b => decide (b < W.heap.size)) (held := true) Try.underlying3 w0) (trodAll_cons_mk (arg_back (W' := W') hlo (by kernel_rfl) (of_decide_eq_true (by kernel_rfl)) h1 hb (fun x hx => hlt x (by simp [hx]))) (trodAll_cons_mk (shut_int (enc := enc) (w := W') (base := 0) (spare := fun b => decide (b < W.heap.size)) (held := true) Try.underlying3 w2) (trodAll_cons_mk (arg_back (W' := W') hlo (by kernel_rfl) (of_decide_eq_true (by kernel_rfl)) h3 hb (fun x hx => hlt x (by simp [hx]))) trodAll_mk0))))
  simp only [List.append_nil, List.nil_append] at hback
  exact ⟨_, rfl, law_post hW' (trodAll_cons_mk (shut_bool Try.underlying4 _) trodAll_mk0) hback rfl hb⟩

theorem over : Rows.deltasGatesRow.holds Try.pinned (OpenSpec.ofChange Rows.deltasGatesSpec) :=
  OpenClaim.holds_of_wide 5 Try.f5 rfl rfl rfl rfl rfl rfl rfl ⟨rfl, rfl, rfl, rfl, rfl⟩ rfl rfl rfl rfl rfl (by kernel_rfl) Try.func5 (by kernel_rfl)
    (of_decide_eq_true (by kernel_rfl)) (by unfold Func.isWrapper; first | (rw [if_pos (by decide +kernel)]; kernel_rfl) | (rw [if_neg (by decide +kernel)]; exact ⟨rfl, rfl⟩))
    (fun os started H enc _ => lifted os started H enc)

theorem proved : Rows.DeltasGatesSaid :=
  over
end Go.Proofs.Ytafhdckcclhjlaa.deltasGates
