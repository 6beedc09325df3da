/- For any number and any bytes: Write and Read return the reference's results and errors. No conditions. -/
import Derived.Test.YtafhdckcclhjlaaDeltaKit2
import Derived.Test.YtafhdckcclhjlaaGatesFrame
namespace Go.Proofs.Ytafhdckcclhjlaa.deltasNumbers
open Go.ChangeShapes Go.WideShapes Go.ChangeAt Go.RowKit
set_option linter.unusedVariables false
set_option linter.unusedSimpArgs false


theorem own : ownKnob Try.prog.godebug = none := by kernel_rfl

set_option maxRecDepth 100000 in
set_option maxHeartbeats 4000000 in
theorem walk (a0 : Int) (A1 : Option Addr) (l1 : List UInt8) (k1 : Nat) (w : World) (w0 : (Lit.int .i64 a0).wf = true) (hm1 : Bya w w.heap.size A1 l1 k1) :
    Calls Try.prog 4 #[.int .i64 a0, .slice A1 l1.length k1] w fun e w' => e = .returned (.bool true) ∧ Below w.heap.size w w' := by
  obtain ⟨L, hL⟩ : ∃ L, l1.length = L := ⟨_, rfl⟩
  by_cases h2 : L ≤ 1000
  · have HB0 : Hid (∀ W, Below w.heap.size w W → Bya W W.heap.size A1 l1 k1) := Lib.hid fun W hW => hm1.to hW hW.size
    have C1 := dWrite_any a0 w
    have C2 := fun W => rWrite_any a0 W
    have C3 := fun (W : World) (hW : Below w.heap.size w W) => dRead_any A1 l1 k1 W (HB0.out W hW) (by omega)
    have C4 := fun (W : World) (hW : Below w.heap.size w W) => rRead_any A1 l1 k1 W (HB0.out W hW) (by omega)
    unfold ByErr at C1 C2
    unfold rdV at C3 C4
    rw [hL] at C3 C4 ⊢
    obtain ⟨x, hx⟩ : ∃ x, wrL a0 = x := ⟨_, rfl⟩
    obtain ⟨e1, he1⟩ : ∃ x, wrE a0 = x := ⟨_, rfl⟩
    obtain ⟨e2, he2⟩ : ∃ x, rdE l1 = x := ⟨_, rfl⟩
    obtain ⟨n1, hn1⟩ : ∃ x, (rdN l1 : Int) = x := ⟨_, rfl⟩
    obtain ⟨s1, hs1⟩ : ∃ x, (rdS l1 : Int) = x := ⟨_, rfl⟩
    obtain ⟨m, hm⟩ : ∃ m, x.length = m := ⟨_, rfl⟩
    obtain ⟨S, hS⟩ : ∃ S, bstr x = S := ⟨_, rfl⟩
    rw [hx, he1] at C1 C2
    rw [he2, hn1, hs1] at C3 C4
    have HS : Hid (∀ w1 W A k, Bya w1 w1.heap.size A x k → Below w1.heap.size w1 W → (convert 25 9 (.slice A m k)).run Try.prog W = .ok (.string S) W) := Lib.hid fun w1 W A k hy hb => by rw [← hm]; exact hy.s hb hS
    rw [hm] at C1 C2
    have D1 := Lib.hid C1
    have D2 := Lib.hid C2
    have D3 := Lib.hid C3
    have D4 := Lib.hid C4
    clear C1 C2 C3 C4 hx he1 he2 hn1 hs1 hm hS hL hm1
    go_enter Try.func4, Try.ntmps4
    go_wp2_with (first
      | (go_at_call 12; (with_reducible refine D1.out.mono ?_); rintro e wa ⟨Aa, ka, rfl, hya, hba, _⟩)
      | (go_at_call 17; (with_reducible refine (D2.out wa).mono ?_); rintro e wb ⟨Ab, kb, rfl, hyb, hbb, _⟩; have hBb : Below w.heap.size w wb := Below.step hba hba.size hbb; have s1 := HS.out wa wb Aa ka hya hbb; have s2 := HS.out wb wb Ab kb hyb (Below.refl _ _))
      | (go_at_call 18; (with_reducible refine (D3.out wb hBb).mono ?_); rintro e wc ⟨rfl, rfl⟩)
      | (go_at_call 19; (with_reducible refine (D4.out wb hBb).mono ?_); rintro e wc ⟨rfl, rfl⟩))
    go_ret
    exact ⟨by simp, hBb⟩
  · rw [hL]
    clear hL
    go_enter Try.func4, Try.ntmps4
    go_wp2
    go_ret
    exact ⟨rfl, Below.refl _ _⟩

set_option maxRecDepth 100000 in
theorem lifted (os : Os) (started : os.Started) (H : Type) (enc : TypeId × Value → H) :
    ReturnsInHanded {} Try.checked os 4 .any (Rows.deltasNumbersSpec.pre6 enc Try.prog Try.f4 Rows.deltasNumbersRow.domain false) (Rows.deltasNumbersSpec.post enc Try.prog Try.f4 false true false false) := by
  refine returnsInHanded_of_change (C := Try.checked) own started (by kernel_rfl) Try.func4
    (ChangeSpec.witness6 (enc := enc) (C := Try.checked) false ⟨#[], #[.int .i64 0, .slice none 0 0], []⟩ 12 (by kernel_rfl) (by kernel_rfl) (by kernel_rfl) (by kernel_rfl)) ?_
  intro W base args ds gs before hval0 hW hcnd _
  have hval : ∀ (j : Nat) t v, Try.f4.params[j]? = some t → args[j]? = some v → Value.okWide Try.prog W .any base t v := hval0
  have hW' := hW
  have hlt : ∀ x ∈ before, x.block < W.heap.size := fun x hx => by simpa using hW'.lt x hx
  obtain ⟨p, q, hA0, hV, rfl, hfz, hnd⟩ := hW
  have hA : DataW.TrodAll enc Try.prog W 0 (fun _ => true) true Try.f4.params.toList args.toList ds p := hA0
  rw [Try.params4] at hA hval
  obtain ⟨v0, vs0, d0, ds0, b0, q0, hargs, rfl, rfl, h0, r0⟩ := trodAll_cons hA
  obtain ⟨v1, vs1, d1, ds1, b1, q1, rfl, rfl, rfl, h1, r1⟩ := trodAll_cons r0
  obtain ⟨rfl, rfl, rfl⟩ := trodAll_nil r1
  obtain rfl : args = #[v0, v1] := by cases args; simp_all
  obtain ⟨rfl, rfl⟩ := trodVars_none hV
  obtain ⟨a0, rfl, rfl, rfl, w0⟩ := open_int Try.underlying3 (hval 0 3 v0 rfl rfl) h0
  obtain ⟨A1, l1, k1, rfl, hm1, hK1⟩ := open_by (hval 1 25 v1 rfl rfl) h1
  have hlo : laidOutB Try.prog = true := by kernel_rfl
  clear hA0 hval0
  simp only [List.append_nil] at hW' hlt
  refine (walk a0 A1 l1 k1 W w0 hm1).mono fun e W' ⟨he, hb⟩ => ?_
  subst he
  have hback := (trodAll_cons_mk (shut_int (enc := enc) (w := W') (base := 0) (spare := fun b => decide (b < W.heap.size)) (held := true) Try.underlying3 w0) (trodAll_cons_mk (arg_back (W' := W') hlo (by kernel_rfl) (of_decide_eq_true (by kernel_rfl)) h1 hb (fun x hx => hlt x (by simp [hx]))) trodAll_mk0))
  simp only [List.append_nil, List.nil_append] at hback
  exact ⟨_, rfl, law_post hW' (trodAll_cons_mk (shut_bool Try.underlying4 _) trodAll_mk0) hback rfl hb⟩

theorem over : Rows.deltasNumbersRow.holds Try.pinned (OpenSpec.ofChange Rows.deltasNumbersSpec) :=
  OpenClaim.holds_of_wide 4 Try.f4 rfl rfl rfl rfl rfl rfl rfl ⟨rfl, rfl, rfl, rfl, rfl⟩ rfl rfl rfl rfl rfl (by kernel_rfl) Try.func4 (by kernel_rfl)
    (of_decide_eq_true (by kernel_rfl)) (by unfold Func.isWrapper; first | (rw [if_pos (by decide +kernel)]; kernel_rfl) | (rw [if_neg (by decide +kernel)]; exact ⟨rfl, rfl⟩))
    (fun os started H enc _ => lifted os started H enc)

theorem proved : Rows.DeltasNumbersSaid :=
  over
end Go.Proofs.Ytafhdckcclhjlaa.deltasNumbers
