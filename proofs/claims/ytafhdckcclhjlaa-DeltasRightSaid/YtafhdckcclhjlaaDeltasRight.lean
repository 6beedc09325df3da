/- For any variable, number and bytes: what is unpacked is right, and packed it is just the bytes of which it is; an error comes with nothing else. No conditions. -/
import Derived.Test.YtafhdckcclhjlaaDeltaKit3
import Derived.Test.YtafhdckcclhjlaaGatesFrame
namespace Go.Proofs.Ytafhdckcclhjlaa.deltasRight
open Go.ChangeShapes Go.WideShapes Go.ChangeAt Go.RowKit
set_option linter.unusedVariables false
set_option linter.unusedSimpArgs false


theorem own : ownKnob Try.prog.godebug = none := by kernel_rfl

set_option maxRecDepth 100000 in
set_option maxHeartbeats 40000000 in
theorem walk (a0 : Int) (a1 : Int) (A2 : Option Addr) (l2 : List UInt8) (k2 : Nat) (w : World) (w0 : (Lit.int .i64 a0).wf = true) (w1 : (Lit.int .i64 a1).wf = true) (hm2 : Bya w w.heap.size A2 l2 k2) :
    Calls Try.prog 8 #[.int .i64 a0, .int .i64 a1, .slice A2 l2.length k2] w fun e w' => e = .returned (.bool true) ∧ Below w.heap.size w w' := by
  have AL := Lib.hid (fun W => alive9_any W)
  obtain ⟨L, hL⟩ : ∃ L, l2.length = L := ⟨_, rfl⟩
  by_cases h2 : L ≤ 1000
  case neg =>
    rw [hL]
    clear hL
    go_enter Try.func8, Try.ntmps8
    go_wp2_with (go_at_call 16; (with_reducible refine (AL.out _).mono ?_); rintro e wz ⟨rfl, hbz⟩)
    go_ret
    exact ⟨rfl, hbz⟩
  have i0 := i64_of w0
  have i1 := i64_of w1
  have C1 := dUnpack_any i0 i1 A2 l2 k2 w hm2 (by omega)
  unfold GsErr at C1
  by_cases hE : unE a0 a1 l2 = 0
  case neg =>
    obtain ⟨q1, q2⟩ := un_no hE
    rw [q1, q2, hL] at C1
    rw [hL]
    obtain ⟨E, hEE⟩ : ∃ E, unE a0 a1 l2 = E := ⟨_, rfl⟩
    rw [hEE] at C1 hE
    have hi : (E != 0) = true := by simpa using hE
    have D1 := Lib.hid C1
    clear C1 hE hEE hL hm2 i0 i1 q1 q2
    go_enter Try.func8, Try.ntmps8
    go_wp2_with (first
      | (go_at_call 14; (with_reducible refine D1.out.mono ?_); rintro e wc ⟨Ac, kc, rfl, hyc, hbc⟩)
      | (go_at_call 16; (with_reducible refine (AL.out wc).mono ?_); rintro e wz ⟨rfl, hbz⟩))
    go_ret
    exact ⟨by simp, Below.step hbc hbc.size hbz⟩
  obtain ⟨v0, v1, eN, v2, hR, pE, pL, hS⟩ := un_all hE
  obtain ⟨A', hs, hA'⟩ := hm2.upto (unS a0 a1 l2) hS
  have hlt : (l2.take (unS a0 a1 l2)).length = unS a0 a1 l2 := by rw [List.length_take]; omega
  have C2 := fun (W : World) A k (h : Gts W W.heap.size A (unN a0 a1 l2) k (unA a0 a1 l2) (unB a0 a1 l2)) => right_any (v := a0) A (unN a0 a1 l2) k _ _ W h (by omega) (by omega)
  have C3 := fun (W : World) A k (h : Gts W W.heap.size A (unN a0 a1 l2) k (unA a0 a1 l2) (unB a0 a1 l2)) => dPack_any i0 A (unN a0 a1 l2) k _ _ W h (by omega)
  unfold ByErr at C3
  rw [pE, pL, hlt] at C3
  rw [hR] at C2
  rw [hE, hL] at C1
  rw [hL, hlt] at hs
  rw [hL] at hS ⊢
  obtain ⟨S, hSS⟩ : ∃ S, bstr (l2.take (unS a0 a1 l2)) = S := ⟨_, rfl⟩
  have HS1 : Hid (∀ W, Below w.heap.size w W → (convert 25 9 (.slice A' (unS a0 a1 l2) k2)).run Try.prog W = .ok (.string S) W) := Lib.hid fun W hW => by have := hA'.s hW hSS; rwa [hlt] at this
  have HS2 : Hid (∀ W A k, Bya W W.heap.size A (l2.take (unS a0 a1 l2)) k → (convert 25 9 (.slice A (unS a0 a1 l2) k)).run Try.prog W = .ok (.string S) W) := Lib.hid fun W A k h => by have := h.s (Below.refl _ _) hSS; rwa [hlt] at this
  obtain ⟨T, hT⟩ : ∃ T, unS a0 a1 l2 = T := ⟨_, rfl⟩
  obtain ⟨N, hN⟩ : ∃ N, unN a0 a1 l2 = N := ⟨_, rfl⟩
  rw [hT] at C1 C3 HS1 HS2 hs hS
  rw [hN] at C1 C2 C3 eN
  subst eN
  have D1 := Lib.hid C1
  have D2 := Lib.hid C2
  have D3 := Lib.hid C3
  clear C1 C2 C3 hE hL hm2 i0 i1 hR pE pL hlt hSS hT hN hA' w1
  go_enter Try.func8, Try.ntmps8
  go_wp2_with (first
    | (go_at_call 14; (with_reducible refine D1.out.mono ?_); rintro e wc ⟨Ac, kc, rfl, hyc, hbc⟩)
    | (go_at_call 23; (with_reducible refine (D2.out wc Ac kc hyc).mono ?_); rintro e wd ⟨rfl, hbd⟩; have hBd : Below w.heap.size w wd := Below.step hbc hbc.size hbd; have hyd := hyc.to hbd hbd.size)
    | (go_at_call 13; (with_reducible refine (D3.out wd Ac kc hyd).mono ?_); rintro e we ⟨Ae, ke, rfl, hye, hbe, _⟩; have hBe : Below w.heap.size w we := Below.step hBd hBd.size hbe; have s1 := HS1.out we hBe; have s2 := HS2.out we Ae ke hye))
  have HX := Lib.hid (And.intro hBe hye)
  clear hye s1 s2 hyd hbe hBd hbd hbc hyc D1 D2 D3 
  refine wp_slots (fun f => Sz f 76 ∧ Slot f 2 (.slice A2 L k2) ∧ Slot f 8 (.int .i64 (T : Int)) ∧ Slot f 10 (.slice Ae T ke) ∧ Slot f 11 (.int .i64 0)) ⟨⟨rfl, rfl⟩, ⟨rfl⟩, ⟨rfl⟩, ⟨rfl⟩, ⟨rfl⟩⟩ fun a0' hA0 hR => ?_
  obtain ⟨hZ, hs2, hs8, hs10, hs11⟩ := hR
  clear hA0
  have hB0 : Below w.heap.size w we.drew := d_drew HX.out.1
  have hS0 : (fun W : World => (convert 25 9 (.slice A' T k2)).run Try.prog W = .ok (.string S) W ∧ (convert 25 9 (.slice Ae T ke)).run Try.prog W = .ok (.string S) W) we.drew := ⟨HS1.out _ hB0, HS2.out _ Ae ke (HX.out.2.to (d_drew (Below.refl _ _)) (Nat.le_refl _))⟩
  refine wp_region_T (fun W : World => (convert 25 9 (.slice A' T k2)).run Try.prog W = .ok (.string S) W ∧ (convert 25 9 (.slice Ae T ke)).run Try.prog W = .ok (.string S) W) 15 (by kernel_rfl) ?_
  refine WT.h ?_
  (refine wt_move 0 11 rfl rfl (by kernel_rfl) (by kernel_rfl) (by kernel_rfl) (by kernel_rfl) (fun _ _ _ h => h) rfl hS0 (by (repeat (first | (refine slot_hit (N := 76) ?_ (by rfl); (repeat (refine sz_put ?_)); assumption; done) | (apply slot_miss; focus rfl))); all_goals assumption) rfl ?_); (refine wt_take1 1 62 (v := ?_) rfl rfl (by kernel_rfl) (by kernel_rfl) (by kernel_rfl) (by kernel_rfl) (fun _ _ _ h => h) rfl hS0 (by (repeat (first | (refine slot_hit (N := 76) ?_ (by rfl); (repeat (refine sz_put ?_)); assumption; done) | (apply slot_miss; focus rfl))); all_goals assumption) (fun ev hk hv0 w hS => ?_) ?_; rotate_left; focus (obtain ⟨j0, j1⟩ := hS; go_simp; rfl)); (refine wt_move 2 63 rfl rfl (by kernel_rfl) (by kernel_rfl) (by kernel_rfl) (by kernel_rfl) (fun _ _ _ h => h) rfl hS0 (by (repeat (first | (refine slot_hit (N := 76) ?_ (by rfl); (repeat (refine sz_put ?_)); assumption; done) | (apply slot_miss; focus rfl))); all_goals assumption) rfl ?_); (refine wt_move 3 10 rfl rfl (by kernel_rfl) (by kernel_rfl) (by kernel_rfl) (by kernel_rfl) (fun _ _ _ h => h) (wanted_of rfl rfl (by (repeat (first | (refine slot_hit (N := 76) ?_ (by rfl); (repeat (refine sz_put ?_)); assumption; done) | (apply slot_miss; focus rfl))); all_goals assumption) rfl) hS0 (by (repeat (first | (refine slot_hit (N := 76) ?_ (by rfl); (repeat (refine sz_put ?_)); assumption; done) | (apply slot_miss; focus rfl))); all_goals assumption) rfl ?_); (refine wt_take1 4 65 (v := ?_) rfl rfl (by kernel_rfl) (by kernel_rfl) (by kernel_rfl) (by kernel_rfl) (fun _ _ _ h => h) (wanted_of rfl rfl (by (repeat (first | (refine slot_hit (N := 76) ?_ (by rfl); (repeat (refine sz_put ?_)); assumption; done) | (apply slot_miss; focus rfl))); all_goals assumption) rfl) hS0 (by (repeat (first | (refine slot_hit (N := 76) ?_ (by rfl); (repeat (refine sz_put ?_)); assumption; done) | (apply slot_miss; focus rfl))); all_goals assumption) (fun ev hk hv0 w hS => ?_) ?_; rotate_left; focus (obtain ⟨j0, j1⟩ := hS; go_simp; rfl)); (refine wt_move 5 2 rfl rfl (by kernel_rfl) (by kernel_rfl) (by kernel_rfl) (by kernel_rfl) (fun _ _ _ h => h) (wanted_of rfl rfl (by (repeat (first | (refine slot_hit (N := 76) ?_ (by rfl); (repeat (refine sz_put ?_)); assumption; done) | (apply slot_miss; focus rfl))); all_goals assumption) rfl) hS0 (by (repeat (first | (refine slot_hit (N := 76) ?_ (by rfl); (repeat (refine sz_put ?_)); assumption; done) | (apply slot_miss; focus rfl))); all_goals assumption) rfl ?_); (refine wt_move 6 8 rfl rfl (by kernel_rfl) (by kernel_rfl) (by kernel_rfl) (by kernel_rfl) (fun _ _ _ h => h) (wanted_of rfl rfl (by (repeat (first | (refine slot_hit (N := 76) ?_ (by rfl); (repeat (refine sz_put ?_)); assumption; done) | (apply slot_miss; focus rfl))); all_goals assumption) rfl) hS0 (by (repeat (first | (refine slot_hit (N := 76) ?_ (by rfl); (repeat (refine sz_put ?_)); assumption; done) | (apply slot_miss; focus rfl))); all_goals assumption) rfl ?_); (refine wt_take2 7 67 68 (v := ?_) rfl rfl (by kernel_rfl) (by kernel_rfl) (by kernel_rfl) (by kernel_rfl) (fun _ _ _ h => h) (wanted_of rfl rfl (by (repeat (first | (refine slot_hit (N := 76) ?_ (by rfl); (repeat (refine sz_put ?_)); assumption; done) | (apply slot_miss; focus rfl))); all_goals assumption) rfl) hS0 (by (repeat (first | (refine slot_hit (N := 76) ?_ (by rfl); (repeat (refine sz_put ?_)); assumption; done) | (apply slot_miss; focus rfl))); all_goals assumption) (by (repeat (first | (refine slot_hit (N := 76) ?_ (by rfl); (repeat (refine sz_put ?_)); assumption; done) | (apply slot_miss; focus rfl))); all_goals assumption) (fun ev hk hv0 hv1 w hS => ?_) ?_; rotate_left; focus (obtain ⟨j0, j1⟩ := hS; go_simp; rfl)); (refine wt_take1 8 69 (v := ?_) rfl rfl (by kernel_rfl) (by kernel_rfl) (by kernel_rfl) (by kernel_rfl) (fun _ _ _ h => h) (wanted_of rfl rfl (by (repeat (first | (refine slot_hit (N := 76) ?_ (by rfl); (repeat (refine sz_put ?_)); assumption; done) | (apply slot_miss; focus rfl))); all_goals assumption) rfl) hS0 (by (repeat (first | (refine slot_hit (N := 76) ?_ (by rfl); (repeat (refine sz_put ?_)); assumption; done) | (apply slot_miss; focus rfl))); all_goals assumption) (fun ev hk hv0 w hS => ?_) ?_; rotate_left; focus (obtain ⟨j0, j1⟩ := hS; go_simp; rfl)); (refine wt_take2 9 66 70 (v := ?_) rfl rfl (by kernel_rfl) (by kernel_rfl) (by kernel_rfl) (by kernel_rfl) (fun _ _ _ h => h) (wanted_of rfl rfl (by (repeat (first | (refine slot_hit (N := 76) ?_ (by rfl); (repeat (refine sz_put ?_)); assumption; done) | (apply slot_miss; focus rfl))); all_goals assumption) rfl) hS0 (by (repeat (first | (refine slot_hit (N := 76) ?_ (by rfl); (repeat (refine sz_put ?_)); assumption; done) | (apply slot_miss; focus rfl))); all_goals assumption) (by (repeat (first | (refine slot_hit (N := 76) ?_ (by rfl); (repeat (refine sz_put ?_)); assumption; done) | (apply slot_miss; focus rfl))); all_goals assumption) (fun ev hk hv0 hv1 w hS => ?_) ?_; rotate_left; focus (obtain ⟨j0, j1⟩ := hS; go_simp; rfl)); (refine wt_take2 10 64 71 (v := ?_) rfl rfl (by kernel_rfl) (by kernel_rfl) (by kernel_rfl) (by kernel_rfl) (fun _ _ _ h => h) rfl hS0 (by (repeat (first | (refine slot_hit (N := 76) ?_ (by rfl); (repeat (refine sz_put ?_)); assumption; done) | (apply slot_miss; focus rfl))); all_goals assumption) (by (repeat (first | (refine slot_hit (N := 76) ?_ (by rfl); (repeat (refine sz_put ?_)); assumption; done) | (apply slot_miss; focus rfl))); all_goals assumption) (fun ev hk hv0 hv1 w hS => ?_) ?_; rotate_left; focus (obtain ⟨j0, j1⟩ := hS; go_simp; rfl)); (refine wt_move 11 72 rfl rfl (by kernel_rfl) (by kernel_rfl) (by kernel_rfl) (by kernel_rfl) (fun _ _ _ h => h) rfl hS0 (by (repeat (first | (refine slot_hit (N := 76) ?_ (by rfl); (repeat (refine sz_put ?_)); assumption; done) | (apply slot_miss; focus rfl))); all_goals assumption) rfl ?_)
  refine wt_call0 12  (by kernel_rfl) rfl rfl (wanted_of rfl rfl (by (repeat (first | (refine slot_hit (N := 76) ?_ (by rfl); (repeat (refine sz_put ?_)); assumption; done) | (apply slot_miss; focus rfl))); all_goals assumption) rfl)  (f := ?_) (args := ?_) (fun ev hk hkf  => ?_) ?_; rotate_left 2; focus (go_simp; first | rfl | (constructor <;> rfl))
  refine (AL.out _).mono ?_
  rintro e wz ⟨rfl, hbz⟩
  have hBz : Below w.heap.size w wz := Below.step hB0 hB0.size hbz
  have hS1 := hS0
  clear hS0
  have hS0 : (fun W : World => (convert 25 9 (.slice A' T k2)).run Try.prog W = .ok (.string S) W ∧ (convert 25 9 (.slice Ae T ke)).run Try.prog W = .ok (.string S) W) wz := ⟨HS1.out _ hBz, HS2.out _ Ae ke ((HX.out.2.to (d_drew (Below.refl _ _)) (Nat.le_refl _)).to hbz hbz.size)⟩
  refine ⟨_, rfl, fun _ => hS0, ?_⟩
  (refine wt_take2 13 73 74 (v := ?_) rfl rfl (by kernel_rfl) (by kernel_rfl) (by kernel_rfl) (by kernel_rfl) (fun _ _ _ h => h) rfl hS0 (by (repeat (first | (refine slot_hit (N := 76) ?_ (by rfl); (repeat (refine sz_put ?_)); assumption; done) | (apply slot_miss; focus rfl))); all_goals assumption) (by (repeat (first | (refine slot_hit (N := 76) ?_ (by rfl); (repeat (refine sz_put ?_)); assumption; done) | (apply slot_miss; focus rfl))); all_goals assumption) (fun ev hk hv0 hv1 w hS => ?_) ?_; rotate_left; focus (go_simp; rfl)); (refine wt_assign 14 75 rfl rfl (by kernel_rfl) (by kernel_rfl) (by kernel_rfl) (by kernel_rfl) (fun _ _ _ h => h) rfl hS0 (by (repeat (first | (refine slot_hit (N := 76) ?_ (by rfl); (repeat (refine sz_put ?_)); assumption; done) | (apply slot_miss; focus rfl))); all_goals assumption) rfl ?_)
  refine wt_known (N := 76) (by kernel_rfl) (by (repeat (refine sz_put ?_)); assumption) [(6, .bool true)] ⟨(by (repeat (first | (refine slot_hit (N := 76) ?_ (by rfl); (repeat (refine sz_put ?_)); assumption; done) | (apply slot_miss; focus rfl))); all_goals assumption), trivial⟩ fun fv fl hfl => ?_; obtain rfl : fl = [fv 0, fv 1, fv 2, fv 3, fv 4, fv 5, (.bool true : Value), fv 7, fv 8, fv 9, fv 10, fv 11, fv 12, fv 13, fv 14, fv 15, fv 16, fv 17, fv 18, fv 19, fv 20, fv 21, fv 22, fv 23, fv 24, fv 25, fv 26, fv 27, fv 28, fv 29, fv 30, fv 31, fv 32, fv 33, fv 34, fv 35, fv 36, fv 37, fv 38, fv 39, fv 40, fv 41, fv 42, fv 43, fv 44, fv 45, fv 46, fv 47, fv 48, fv 49, fv 50, fv 51, fv 52, fv 53, fv 54, fv 55, fv 56, fv 57, fv 58, fv 59, fv 60, fv 61, fv 62, fv 63, fv 64, fv 65, fv 66, fv 67, fv 68, fv 69, fv 70, fv 71, fv 72, fv 73, fv 74, fv 75] := hfl.symm.trans (by kernel_rfl); clear hfl
  go_wp2
  go_ret
  exact ⟨rfl, hBz⟩

set_option maxRecDepth 100000 in
theorem lifted (os : Os) (started : os.Started) (H : Type) (enc : TypeId × Value → H) :
    ReturnsInHanded {} Try.checked os 8 .any (Rows.deltasRightSpec.pre6 enc Try.prog Try.f8 Rows.deltasRightRow.domain false) (Rows.deltasRightSpec.post enc Try.prog Try.f8 false true false false) := by
  refine returnsInHanded_of_change (C := Try.checked) own started (by kernel_rfl) Try.func8
    (ChangeSpec.witness6 (enc := enc) (C := Try.checked) false ⟨#[], #[.int .i64 0, .int .i64 0, .slice none 0 0], []⟩ 12 (by kernel_rfl) (by kernel_rfl) (by kernel_rfl) (by kernel_rfl)) ?_
  intro W base args ds gs before hval0 hW hcnd _
  have hval : ∀ (j : Nat) t v, Try.f8.params[j]? = some t → args[j]? = some v → Value.okWide Try.prog W .any base t v := hval0
  have hW' := hW
  have hlt : ∀ x ∈ before, x.block < W.heap.size := fun x hx => by simpa using hW'.lt x hx
  obtain ⟨p, q, hA0, hV, rfl, hfz, hnd⟩ := hW
  have hA : DataW.TrodAll enc Try.prog W 0 (fun _ => true) true Try.f8.params.toList args.toList ds p := hA0
  rw [Try.params8] at hA hval
  obtain ⟨v0, vs0, d0, ds0, b0, q0, hargs, rfl, rfl, h0, r0⟩ := trodAll_cons hA
  obtain ⟨v1, vs1, d1, ds1, b1, q1, rfl, rfl, rfl, h1, r1⟩ := trodAll_cons r0
  obtain ⟨v2, vs2, d2, ds2, b2, q2, rfl, rfl, rfl, h2, r2⟩ := trodAll_cons r1
  obtain ⟨rfl, rfl, rfl⟩ := trodAll_nil r2
  obtain rfl : args = #[v0, v1, v2] := by cases args; simp_all
  obtain ⟨rfl, rfl⟩ := trodVars_none hV
  obtain ⟨a0, rfl, rfl, rfl, w0⟩ := open_int Try.underlying3 (hval 0 3 v0 rfl rfl) h0
  obtain ⟨a1, rfl, rfl, rfl, w1⟩ := open_int Try.underlying3 (hval 1 3 v1 rfl rfl) h1
  obtain ⟨A2, l2, k2, rfl, hm2, hK2⟩ := open_by (hval 2 25 v2 rfl rfl) h2
  have hlo : laidOutB Try.prog = true := by kernel_rfl
  clear hA0 hval0
  simp only [List.append_nil] at hW' hlt
  refine (walk a0 a1 A2 l2 k2 W w0 w1 hm2).mono fun e W' ⟨he, hb⟩ => ?_
  subst he
  have hback := (trodAll_cons_mk (shut_int (enc := enc) (w := W') (base := 0) (spare := fun b => decide (b < W.heap.size)) (held := true) Try.underlying3 w0) (trodAll_cons_mk (shut_int (enc := enc) (w := W') (base := 0) (spare := fun b => decide (b < W.heap.size)) (held := true) Try.underlying3 w1) (trodAll_cons_mk (arg_back (W' := W') hlo (by kernel_rfl) (of_decide_eq_true (by kernel_rfl)) h2 hb (fun x hx => hlt x (by simp [hx]))) trodAll_mk0)))
  simp only [List.append_nil, List.nil_append] at hback
  exact ⟨_, rfl, law_post hW' (trodAll_cons_mk (shut_bool Try.underlying4 _) trodAll_mk0) hback rfl hb⟩

theorem over : Rows.deltasRightRow.holds Try.pinned (OpenSpec.ofChange Rows.deltasRightSpec) :=
  OpenClaim.holds_of_wide 8 Try.f8 rfl rfl rfl rfl rfl rfl rfl ⟨rfl, rfl, rfl, rfl, rfl⟩ rfl rfl rfl rfl rfl (by kernel_rfl) Try.func8 (by kernel_rfl)
    (of_decide_eq_true (by kernel_rfl)) (by unfold Func.isWrapper; first | (rw [if_pos (by decide +kernel)]; kernel_rfl) | (rw [if_neg (by decide +kernel)]; exact ⟨rfl, rfl⟩))
    (fun os started H enc _ => lifted os started H enc)

theorem proved : Rows.DeltasRightSaid :=
  over
end Go.Proofs.Ytafhdckcclhjlaa.deltasRight
