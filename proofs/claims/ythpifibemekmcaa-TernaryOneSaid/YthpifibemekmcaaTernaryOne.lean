/- For all lists of at most 100 bytes: where they are truth values and as long, covering is so in one direction only, unless both are the same; what covers what covers a list covers it; all of TeAny covers all. No conditions. -/
import Derived.Test.YthpifibemekmcaaTernCovKit
namespace Go.Proofs.Ythpifibemekmcaa.ternaryOne
open Go.ChangeShapes Go.WideShapes Go.ChangeAt Go.RowKit
set_option linter.unusedVariables false
set_option linter.unusedSimpArgs false


theorem own : ownKnob Try.prog.godebug = none := by kernel_rfl

set_option maxRecDepth 100000 in
set_option maxHeartbeats 4000000 in
theorem walk (A0 : Option Addr) (n0 k0 : Nat) (f0 : Nat → Int) (A1 : Option Addr) (n1 k1 : Nat) (f1 : Nat → Int) (A2 : Option Addr) (n2 k2 : Nat) (f2 : Nat → Int) (w : World) (hm0 : TrAt w w.heap.size A0 n0 f0) (hN0 : A0 = none → n0 = 0 ∧ k0 = 0) (hC0 : n0 ≤ k0 ∧ k0 ≤ maxLen) (hr0 : ∀ j, j < n0 → 0 ≤ f0 j ∧ f0 j ≤ 255) (hm1 : TrAt w w.heap.size A1 n1 f1) (hN1 : A1 = none → n1 = 0 ∧ k1 = 0) (hC1 : n1 ≤ k1 ∧ k1 ≤ maxLen) (hr1 : ∀ j, j < n1 → 0 ≤ f1 j ∧ f1 j ≤ 255) (hm2 : TrAt w w.heap.size A2 n2 f2) (hN2 : A2 = none → n2 = 0 ∧ k2 = 0) (hC2 : n2 ≤ k2 ∧ k2 ≤ maxLen) (hr2 : ∀ j, j < n2 → 0 ≤ f2 j ∧ f2 j ≤ 255) :
    Calls Try.prog 9 #[.slice A0 n0 k0, .slice A1 n1 k1, .slice A2 n2 k2] w fun e w' => e = .returned (.bool true) ∧ Below w.heap.size w w' := by
  by_cases g0 : 100 < n0
  · go_enter Try.func9, Try.ntmps9
    go_wp2_with (go_at_call 20; (with_reducible refine (alive5_any w).mono ?_); rintro e wz ⟨rfl, hbz⟩)
    go_ret
    exact ⟨rfl, hbz⟩
  by_cases g1 : n1 = n0
  case neg =>
    have t1 : ((n1 : Int) != (n0 : Int)) = true := by simp; omega
    clear g1
    go_enter Try.func9, Try.ntmps9
    go_wp2_with (go_at_call 20; (with_reducible refine (alive5_any w).mono ?_); rintro e wz ⟨rfl, hbz⟩)
    go_ret
    exact ⟨rfl, hbz⟩
  subst g1
  have t1 : ((n1 : Int) != (n1 : Int)) = false := by simp
  by_cases g2 : n2 = n1
  case neg =>
    have t2 : ((n2 : Int) != (n1 : Int)) = true := by simp; omega
    clear g2
    go_enter Try.func9, Try.ntmps9
    go_wp2_with (go_at_call 20; (with_reducible refine (alive5_any w).mono ?_); rintro e wz ⟨rfl, hbz⟩)
    go_ret
    exact ⟨rfl, hbz⟩
  subst g2
  have R0 := tRight_any A0 n2 k0 f0 w.heap.size w (by omega) hm0 hr0
  have R1 := tRight_any A1 n2 k1 f1 w.heap.size w (by omega) hm1 hr1
  have R2 := tRight_any A2 n2 k2 f2 w.heap.size w (by omega) hm2 hr2
  cases h0 : allTb f0 n2
  case false =>
    rw [h0] at R0
    clear h0 R1 R2
    go_enter Try.func9, Try.ntmps9
    go_wp2_with (first
      | (go_at_call 35; (with_reducible refine R0.mono ?_); rintro e wa ⟨rfl, rfl⟩)
      | (go_at_call 20; (with_reducible refine (alive5_any w).mono ?_); rintro e wz ⟨rfl, hbz⟩))
    go_ret
    exact ⟨rfl, hbz⟩
  rw [h0] at R0
  cases h1 : allTb f1 n2
  case false =>
    rw [h1] at R1
    clear h0 h1 R2
    go_enter Try.func9, Try.ntmps9
    go_wp2_with (first
      | (go_at_call 35; (with_reducible refine R0.mono ?_); rintro e wa ⟨rfl, rfl⟩)
      | (go_at_call 35; (with_reducible refine R1.mono ?_); rintro e wa ⟨rfl, rfl⟩)
      | (go_at_call 20; (with_reducible refine (alive5_any w).mono ?_); rintro e wz ⟨rfl, hbz⟩))
    go_ret
    exact ⟨rfl, hbz⟩
  rw [h1] at R1
  cases h2 : allTb f2 n2
  case false =>
    rw [h2] at R2
    clear h0 h1 h2
    go_enter Try.func9, Try.ntmps9
    go_wp2_with (first
      | (go_at_call 35; (with_reducible refine R0.mono ?_); rintro e wa ⟨rfl, rfl⟩)
      | (go_at_call 35; (with_reducible refine R1.mono ?_); rintro e wa ⟨rfl, rfl⟩)
      | (go_at_call 35; (with_reducible refine R2.mono ?_); rintro e wa ⟨rfl, rfl⟩)
      | (go_at_call 20; (with_reducible refine (alive5_any w).mono ?_); rintro e wz ⟨rfl, hbz⟩))
    go_ret
    exact ⟨rfl, hbz⟩
  rw [h2] at R2
  have T0 := allTb_at h0 hr0
  have T1 := allTb_at h1 hr1
  have T2 := allTb_at h2 hr2
  obtain ⟨x01, e01⟩ : ∃ x, covL f0 f1 n2 = x := ⟨_, rfl⟩
  obtain ⟨x10, e10⟩ : ∃ x, covL f1 f0 n2 = x := ⟨_, rfl⟩
  obtain ⟨x12, e12⟩ : ∃ x, covL f1 f2 n2 = x := ⟨_, rfl⟩
  obtain ⟨x02, e02⟩ : ∃ x, covL f0 f2 n2 = x := ⟨_, rfl⟩
  have D1 := Lib.hid (tCov_at e01 (by omega) T0 T1 A0 A1 k0 k1 w.heap.size w hm0 hm1)
  have D2 := Lib.hid (tCov_at e10 (by omega) T1 T0 A1 A0 k1 k0 w.heap.size w hm1 hm0)
  have D3 := Lib.hid (tCov_at e12 (by omega) T1 T2 A1 A2 k1 k2 w.heap.size w hm1 hm2)
  have D4 := Lib.hid (tCov_at e02 (by omega) T0 T2 A0 A2 k0 k2 w.heap.size w hm0 hm2)
  have D5 := Lib.hid (tCov_at (covL_self f0 n2) (by omega) T0 T0 A0 A0 k0 k0 w.heap.size w hm0 hm0)
  have D6 := Lib.hid (fun (W : World) (hW : Below w.heap.size w W) (A : Option Addr) (k : Nat) (hA : TrAt W W.heap.size A n2 (fun _ => 2)) => tCov_at (f := fun _ => 2) (g := f0) (n := n2) (covL_yes fun _ _ => Or.inl rfl) (by omega) (fun _ _ => isT2) T0 A A0 k k0 W.heap.size W hA ((hm0.keep hW).more hW.size))
  have HF := Lib.hid (show (x01 = true → x12 = true → x02 = true) ∧ ((x01 && x10) = samT n2 n2 f0 f1) from ⟨fun a b => by
    subst a b; rw [← e02]
    refine covL_yes fun j hj => ?_
    have q1 := covL_at e01 j hj
    have q2 := covL_at e12 j hj
    unfold tcov at *; omega, by
    rw [← e01, ← e10, Bool.eq_iff_iff]
    constructor
    · intro h
      rw [Bool.and_eq_true] at h
      refine samT_yes fun j hj => ?_
      have q1 := covL_at h.1 j hj
      have q2 := covL_at h.2 j hj
      unfold tcov at *; omega
    · intro h
      have q := (samT_at h).2
      rw [Bool.and_eq_true]
      exact ⟨covL_yes fun j hj => Or.inr (q j hj), covL_yes fun j hj => Or.inr (q j hj).symm⟩⟩)
  have hmk : ∀ w : World, (Instr.makeSlice 29 (.int .i64 (n2 : Int)) (.int .i64 (n2 : Int))).run Try.prog w = .ok (.slice (some ⟨w.heap.size, 0, none⟩) n2 n2) (w.alloc (.cells (madeCells #[.int .u8 0] n2) 5)) := fun w =>
    run_make_row' 29 5 (.int .u8 0) 1 Try.underlying29 info_u8 rfl _ _ n2 (by omega) (by omega) w
  clear e01 e10 e12 e02 h0 h1 h2
  go_enter Try.func9, Try.ntmps9
  go_wp2_with (first
    | (go_at_call 35; (with_reducible refine R0.mono ?_); rintro e wa ⟨rfl, rfl⟩)
    | (go_at_call 35; (with_reducible refine R1.mono ?_); rintro e wa ⟨rfl, rfl⟩)
    | (go_at_call 35; (with_reducible refine R2.mono ?_); rintro e wa ⟨rfl, rfl⟩)
    | (go_at_call 13; (with_reducible refine D1.out.mono ?_); rintro e wa ⟨rfl, rfl⟩)
    | (go_at_call 13; (with_reducible refine D2.out.mono ?_); rintro e wa ⟨rfl, rfl⟩)
    | (go_at_call 13; (with_reducible refine D3.out.mono ?_); rintro e wa ⟨rfl, rfl⟩)
    | (go_at_call 13; (with_reducible refine D4.out.mono ?_); rintro e wa ⟨rfl, rfl⟩)
    | (go_at_call 13; (with_reducible refine D5.out.mono ?_); rintro e wa ⟨rfl, rfl⟩))
  have hR0 : (w.alloc (.cells (madeCells #[.int .u8 0] n2) 5)).rowIs w.heap.size 5 n2 (fun v => .int .u8 (if v < 0 then 2 else 0)) := World.rowIs_made w (.int .u8 0) n2 5
  have hB0 : Below w.heap.size w (w.alloc (.cells (madeCells #[.int .u8 0] n2) 5)) := by go_grown
  go_loopw [18] (fun i wr => ∃ q : Nat, q ≤ n2 ∧ i = .int .i64 q ∧ wr.rowIs w.heap.size 5 n2 (fun v => .int .u8 (if v < q then 2 else 0)) ∧ Below w.heap.size w wr) (fun i _ => n2 - (intOf i).toNat)
  case atStart => exact ⟨0, Nat.zero_le _, rfl, hR0, hB0⟩
  case round =>
    clear hR0 hB0
    obtain ⟨q, hq, rfl, hR, hBr⟩ := hrel
    by_cases hlt : q < n2
    · have z1 := hR.cell hlt
      have z2 := hR.frozen q
      have hb1 : (0 : Int) ≤ (q : Int) := by omega
      have hb2 : (q : Int) < (n2 : Int) := by omega
      go_wp2
      go_roundw
      case rel => exact ⟨q + 1, by omega, by go_num, (hR.set _ _).congr fun j hj => by
        by_cases e : j = q
        · rw [if_pos e, if_pos (by omega)]
        · rw [if_neg e]
          by_cases e2 : j < q
          · rw [if_pos e2, if_pos (by omega)]
          · rw [if_neg e2, if_neg (by omega)], hBr.setCell (by simp) _⟩
      case measure => simp [intOf]; omega
    · have hqn : q = n2 := by omega
      have hA : TrAt wr wr.heap.size (some ⟨w.heap.size, 0, none⟩) n2 (fun _ => 2) := (row_trs hR).congr fun j hj => if_pos (by omega)
      have S1 := samTs_any A0 A1 n2 n2 k0 k1 f0 f1 wr.heap.size wr (by omega) (by omega) ((hm0.keep hBr).more hBr.size) ((hm1.keep hBr).more hBr.size)
      rw [← HF.out.2] at S1
      have hlt' : ¬ (q : Int) < (n2 : Int) := by omega
      have HI := Lib.hid HF.out.1
      clear D1 D2 D3 D4 D5 hR hqn hlt hq HF
      cases x01
      case false =>
        rw [Bool.false_and] at S1
        have S := Lib.hid S1
        clear S1
        go_wp2_with (first
          | (go_at_call 13; (with_reducible refine (D6.out wr hBr _ _ hA).mono ?_); rintro e wa ⟨rfl, rfl⟩)
          | (go_at_call 19; (with_reducible refine S.out.mono ?_); rintro e wb ⟨rfl, hb5⟩; have hB5 : Below w.heap.size w wb := Below.step hBr hBr.size hb5)
          | (go_at_call 20; (with_reducible refine (alive5_any wb).mono ?_); rintro e wz ⟨rfl, hbz⟩; have hBz : Below w.heap.size w wz := Below.step hB5 hB5.size hbz))
        go_ret
        exact ⟨by simp, hBz⟩
      case true =>
        rw [Bool.true_and] at S1
        cases x12
        case false =>
          have S := Lib.hid S1
          clear S1
          cases x10
          all_goals
            go_wp2_with (first
              | (go_at_call 13; (with_reducible refine (D6.out wr hBr _ _ hA).mono ?_); rintro e wa ⟨rfl, rfl⟩)
              | (go_at_call 19; (with_reducible refine S.out.mono ?_); rintro e wb ⟨rfl, hb5⟩; have hB5 : Below w.heap.size w wb := Below.step hBr hBr.size hb5)
              | (go_at_call 20; (with_reducible refine (alive5_any wb).mono ?_); rintro e wz ⟨rfl, hbz⟩; have hBz : Below w.heap.size w wz := Below.step hB5 hB5.size hbz))
            go_ret
            exact ⟨by simp, hBz⟩
        case true =>
          obtain rfl : x02 = true := HI.out rfl rfl
          have S := Lib.hid S1
          clear S1
          cases x10
          all_goals
            go_wp2_with (first
              | (go_at_call 13; (with_reducible refine (D6.out wr hBr _ _ hA).mono ?_); rintro e wa ⟨rfl, rfl⟩)
              | (go_at_call 19; (with_reducible refine S.out.mono ?_); rintro e wb ⟨rfl, hb5⟩; have hB5 : Below w.heap.size w wb := Below.step hBr hBr.size hb5)
              | (go_at_call 20; (with_reducible refine (alive5_any wb).mono ?_); rintro e wz ⟨rfl, hbz⟩; have hBz : Below w.heap.size w wz := Below.step hB5 hB5.size hbz))
            go_ret
            exact ⟨by simp, hBz⟩

set_option maxRecDepth 100000 in
theorem lifted (os : Os) (started : os.Started) (H : Type) (enc : TypeId × Value → H) :
    ReturnsInHanded {} Try.checked os 9 .any (Rows.ternaryOneSpec.pre6 enc Try.prog Try.f9 Rows.ternaryOneRow.domain false) (Rows.ternaryOneSpec.post enc Try.prog Try.f9 false true false false) := by
  refine returnsInHanded_of_change (C := Try.checked) own started (by kernel_rfl) Try.func9
    (ChangeSpec.witness6 (enc := enc) (C := Try.checked) false ⟨#[], #[.slice none 0 0, .slice none 0 0, .slice none 0 0], []⟩ 12 (by kernel_rfl) (by kernel_rfl) (by kernel_rfl) (by kernel_rfl)) ?_
  intro W base args ds gs before hval0 hW hcnd _
  have hval : ∀ (j : Nat) t v, Try.f9.params[j]? = some t → args[j]? = some v → Value.okWide Try.prog W .any base t v := hval0
  have hW' := hW
  have hlt : ∀ x ∈ before, x.block < W.heap.size := fun x hx => by simpa using hW'.lt x hx
  obtain ⟨p, q, hA0, hV, rfl, hfz, hnd⟩ := hW
  have hA : DataW.TrodAll enc Try.prog W 0 (fun _ => true) true Try.f9.params.toList args.toList ds p := hA0
  rw [Try.params9] at hA hval
  obtain ⟨v0, vs0, d0, ds0, b0, q0, hargs, rfl, rfl, h0, r0⟩ := trodAll_cons hA
  obtain ⟨v1, vs1, d1, ds1, b1, q1, rfl, rfl, rfl, h1, r1⟩ := trodAll_cons r0
  obtain ⟨v2, vs2, d2, ds2, b2, q2, rfl, rfl, rfl, h2, r2⟩ := trodAll_cons r1
  obtain ⟨rfl, rfl, rfl⟩ := trodAll_nil r2
  obtain rfl : args = #[v0, v1, v2] := by cases args; simp_all
  obtain ⟨rfl, rfl⟩ := trodVars_none hV
  obtain ⟨A0, n0, k0, f0, rfl, hm0, hN0, hC0, hr0⟩ := open_tr (hval 0 29 v0 rfl rfl) h0
  obtain ⟨A1, n1, k1, f1, rfl, hm1, hN1, hC1, hr1⟩ := open_tr (hval 1 29 v1 rfl rfl) h1
  obtain ⟨A2, n2, k2, f2, rfl, hm2, hN2, hC2, hr2⟩ := open_tr (hval 2 29 v2 rfl rfl) h2
  have hlo : laidOutB Try.prog = true := by kernel_rfl
  clear hA0 hval0
  simp only [List.append_nil] at hW' hlt
  refine (walk A0 n0 k0 f0 A1 n1 k1 f1 A2 n2 k2 f2 W hm0 hN0 hC0 hr0 hm1 hN1 hC1 hr1 hm2 hN2 hC2 hr2).mono fun e W' ⟨he, hb⟩ => ?_
  subst he
  have hback := (trodAll_cons_mk (arg_back (W' := W') hlo (by kernel_rfl) (of_decide_eq_true (by kernel_rfl)) h0 hb (fun x hx => hlt x (by simp [hx]))) (trodAll_cons_mk (arg_back (W' := W') hlo (by kernel_rfl) (of_decide_eq_true (by kernel_rfl)) h1 hb (fun x hx => hlt x (by simp [hx]))) (trodAll_cons_mk (arg_back (W' := W') hlo (by kernel_rfl) (of_decide_eq_true (by kernel_rfl)) h2 hb (fun x hx => hlt x (by simp [hx]))) trodAll_mk0)))
  simp only [List.append_nil, List.nil_append] at hback
  exact ⟨_, rfl, law_post hW' (trodAll_cons_mk (shut_bool Try.underlying4 _) trodAll_mk0) hback rfl hb⟩

theorem over : Rows.ternaryOneRow.holds Try.pinned (OpenSpec.ofChange Rows.ternaryOneSpec) :=
  OpenClaim.holds_of_wide 9 Try.f9 rfl rfl rfl rfl rfl rfl rfl ⟨rfl, rfl, rfl, rfl, rfl⟩ rfl rfl rfl rfl rfl (by kernel_rfl) Try.func9 (by kernel_rfl)
    (of_decide_eq_true (by kernel_rfl)) (by unfold Func.isWrapper; first | (rw [if_pos (by decide +kernel)]; kernel_rfl) | (rw [if_neg (by decide +kernel)]; exact ⟨rfl, rfl⟩))
    (fun os started H enc _ => lifted os started H enc)

theorem proved : Rows.TernaryOneSaid :=
  over
end Go.Proofs.Ythpifibemekmcaa.ternaryOne
