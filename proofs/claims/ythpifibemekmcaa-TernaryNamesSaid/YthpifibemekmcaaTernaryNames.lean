/- The examples of layer 5, the tables of AND, negation and covering, and errors. -/
import Derived.Test.YthpifibemekmcaaTernNamesKit
namespace Go.Proofs.Ythpifibemekmcaa.ternaryNames
open Go.ChangeShapes Go.WideShapes Go.ChangeAt Go.RowKit
set_option linter.unusedVariables false
set_option linter.unusedSimpArgs false


theorem own : ownKnob Try.prog.godebug = none := by kernel_rfl

set_option maxRecDepth 100000 in
set_option maxHeartbeats 4000000 in
theorem walk  (w : World)  :
    Calls Try.prog 3 #[] w fun e w' => e = .returned (.bool true) ∧ Below w.heap.size w w' := by
  have hW0 : Has ((w.alloc (.cells wantL 22)).alloc (.cells notL 23)) w.heap.size 22 wantL := (Has.new _ _ _).al _
  have hN0 : Has ((w.alloc (.cells wantL 22)).alloc (.cells notL 23)) (w.heap.size + 1) 23 notL := Has.new' _ _ (by simp)
  have hBx : Below w.heap.size w ((w.alloc (.cells wantL 22)).alloc (.cells notL 23)) := ((Below.refl _ _).alloc (Nat.le_refl _) _).alloc (by simp) _
  go_enter Try.func3, Try.ntmps3
  go_wp2
  go_loopw [3] (fun i wr => ∃ q : Nat, q ≤ 9 ∧ i = .int .i64 q ∧ Has wr w.heap.size 22 wantL ∧ Has wr (w.heap.size + 1) 23 notL ∧ Below w.heap.size w wr) (fun i _ => 9 - (intOf i).toNat)
  case atStart => exact ⟨0, Nat.zero_le _, rfl, hW0, hN0, hBx⟩
  case round =>
    clear hW0 hN0 hBx
    obtain ⟨q, hq, rfl, hW, hN, hBr⟩ := hrel
    by_cases hlt : q < 9
    · obtain ⟨a, ha⟩ : ∃ a : Int, (q : Int) / 3 = a := ⟨_, rfl⟩
      obtain ⟨b, hb⟩ : ∃ b : Int, (q : Int) % 3 = b := ⟨_, rfl⟩
      have T1 : isT a := isT_mk (by omega) (by omega)
      have T2 : isT b := isT_mk (by omega) (by omega)
      have hw1 : IntKind.u8.wrap ((q : Int) / 3) = a := by rw [ha]; exact u8w T1
      have hw2 : IntKind.u8.wrap ((q : Int) % 3) = b := by rw [hb]; exact u8w T2
      obtain ⟨X, hX⟩ : ∃ X, tand a b = X := ⟨_, rfl⟩
      obtain ⟨N, hNN⟩ : ∃ N, tneg a = N := ⟨_, rfl⟩
      have y0 : ∀ o o', ((wr.alloc o).alloc o').cell? ⟨w.heap.size, q, none⟩ = some (.int .u8 X) := fun o o' => by rw [← hX, ← ha, ← hb]; exact (((hW.al o).al o').cell q).trans (want_at hlt)
      have y1 : ∀ o o', ((wr.alloc o).alloc o').cell? ⟨w.heap.size + 1, a.toNat, none⟩ = some (.int .u8 N) := fun o o' => by rw [← hNN]; exact (((hN.al o).al o').cell a.toNat).trans (not_at T1)
      have D1 := Lib.hid (tNot_yes T1 wr)
      have D2 := Lib.hid (covW T1 T2 wr)
      have D3 := Lib.hid (fun W => both_any T1 T2 W)
      rw [hNN] at D1
      rw [hX] at D3
      have a0 := T1.lo.1
      have a1 : a < 3 := by have := T1.lo.2; omega
      have q0 : (0 : Int) ≤ (q : Int) := by omega
      have q1 : (q : Int) < 9 := by omega
      have hWl := hW.lt
      have hNl := hN.lt
      have gX : (X != X) = false := by simp
      have gN : (N != N) = false := by simp
      clear ha hb hX hNN T1 T2
      have hcs : ((a == 2) = true) ∨ ((a == 2) = false ∧ (a == b) = true) ∨ ((a == 2) = false ∧ (a == b) = false) := by cases (a == 2) <;> cases (a == b) <;> simp
      rcases hcs with h2 | ⟨h2, h3⟩ | ⟨h2, h3⟩
      all_goals
        rw [h2] at D2
        try rw [h3] at D2
        go_wp2_with (first
          | (go_at_call 12; (with_reducible refine D1.out.mono ?_); rintro e x1 ⟨rfl, rfl⟩)
          | (go_at_call 13; (with_reducible refine D2.out.mono ?_); rintro e x1 ⟨rfl, rfl⟩))
        go_quiet ((go_at_call 14; with_reducible exact qs (D3.out _)))
        go_wp2
        go_roundw
        case rel => exact ⟨q + 1, by omega, by go_num, (hW.al _).al _, (hN.al _).al _, below_dn ((hBr.alloc hBr.size _).alloc (by simp; have := hBr.size; omega) _) _⟩
        case measure => simp [intOf]; omega
    · have hlt' : ¬ (q : Int) < 9 := by omega
      have hV0 : Below w.heap.size w (((((wr.alloc (.cells #[.int .u8 3] 5)).alloc (.cells #[.int .u8 3] 5)).alloc (.cells #[.int .u8 0] 5)).alloc (.cells #[.int .i64 5, .int .i64 1] 33)).alloc (.cells #[.int .i64 1, .slice (some ⟨wr.heap.size + 1 + 1 + 1, 0, none⟩) 1 1, .slice none 0 0, .slice none 0 0, .slice none 0 0] 38)) := ((((hBr.alloc hBr.size _).alloc (by simp; have := hBr.size; omega) _).alloc (by simp; have := hBr.size; omega) _).alloc (by simp; have := hBr.size; omega) _).alloc (by simp; have := hBr.size; omega) _
      have hL0 : Has (((((wr.alloc (.cells #[.int .u8 3] 5)).alloc (.cells #[.int .u8 3] 5)).alloc (.cells #[.int .u8 0] 5)).alloc (.cells #[.int .i64 5, .int .i64 1] 33)).alloc (.cells #[.int .i64 1, .slice (some ⟨wr.heap.size + 1 + 1 + 1, 0, none⟩) 1 1, .slice none 0 0, .slice none 0 0, .slice none 0 0] 38)) (wr.heap.size + 1 + 1 + 1) 33 #[.int .i64 5, .int .i64 1] := (Has.new' _ _ (by simp)).al _
      have hO0 : Has (((((wr.alloc (.cells #[.int .u8 3] 5)).alloc (.cells #[.int .u8 3] 5)).alloc (.cells #[.int .u8 0] 5)).alloc (.cells #[.int .i64 5, .int .i64 1] 33)).alloc (.cells #[.int .i64 1, .slice (some ⟨wr.heap.size + 1 + 1 + 1, 0, none⟩) 1 1, .slice none 0 0, .slice none 0 0, .slice none 0 0] 38)) (wr.heap.size + 1 + 1 + 1 + 1) 38 (cc oneC (oP (wr.heap.size + 1 + 1 + 1))) := Has.new' _ _ (by simp)
      clear hW hN hq
      go_wp2_with (first
        | (go_at_call 15; (with_reducible refine (and30 wr).mono ?_); rintro e x1 ⟨rfl, rfl⟩)
        | (go_at_call 15; (with_reducible refine (and0 wr).mono ?_); rintro e x1 ⟨rfl, rfl⟩)
        | (go_at_call 12; (with_reducible refine (not3 wr).mono ?_); rintro e x1 ⟨rfl, rfl⟩)
        | (go_at_call 13; (with_reducible refine (cA wr wr.heap.size rfl).mono ?_); rintro e x1 ⟨rfl, rfl⟩)
        | (go_at_call 13; (with_reducible refine (cB (wr.alloc (.cells #[.int .u8 3] 5)) (wr.heap.size + 1) (by simp)).mono ?_); rintro e x1 ⟨rfl, rfl⟩)
        | (go_at_call 13; (with_reducible refine (cC ((wr.alloc (.cells #[.int .u8 3] 5)).alloc (.cells #[.int .u8 3] 5)) (wr.heap.size + 1 + 1) (by simp)).mono ?_); rintro e x1 ⟨rfl, rfl⟩)
        | (go_at_call 16; (with_reducible refine (tAllE qA ne2 ((((((wr.alloc (.cells #[.int .u8 3] 5)).alloc (.cells #[.int .u8 3] 5)).alloc (.cells #[.int .u8 0] 5)).alloc (.cells #[.int .i64 5, .int .i64 1] 33)).alloc (.cells #[.int .i64 1, .slice (some ⟨wr.heap.size + 1 + 1 + 1, 0, none⟩) 1 1, .slice none 0 0, .slice none 0 0, .slice none 0 0] 38)).alloc _) (tArg1g (oneC_mem hL0) oneC_sm 3 (by decide) (by decide) (wr.heap.size + 1 + 1 + 1 + 1 + 1) (by simp))).mono ?_); rintro e v1 ⟨A1, k1, rfl, hi1, hb1⟩; have hB1 : Below w.heap.size w v1 := Below.step (hV0.alloc hV0.size _) (by have := hV0.size; simp only [World.size_alloc] at this ⊢; omega) hb1; have hO := (hO0.al (.cells #[.int .u8 3] 5)).keep hb1 (by simp only [World.size_alloc]; omega); have hL := (hL0.al (.cells #[.int .u8 3] 5)).keep hb1 (by simp only [World.size_alloc]; omega); obtain ⟨o0, o1, o2, o3, o4⟩ := hO.box)
        | (go_at_call 17; (with_reducible refine (tNextE qB ne8 ((v1.alloc _).alloc _) (tArg2 (oneC_mem hL) oneC_sm 3 0 (by decide) (by decide) (by decide) (by decide))).mono ?_); rintro e v2 ⟨A2, k2, rfl, hi2, hb2⟩; have hv2 : Below v1.heap.size v1 v2 := Below.step (((Below.refl _ _).alloc (Nat.le_refl _) _).alloc (by simp) _) (by simp only [World.size_alloc]; omega) hb2; have hB2 := Below.step hB1 hB1.size hv2; have hO := hO.keep hv2 hO.lt; have hL := hL.keep hv2 hL.lt; obtain ⟨hc2, hf2⟩ := bcell hv2; obtain ⟨o0, o1, o2, o3, o4⟩ := hO.box)
        | (go_at_call 16; (with_reducible refine (tAllE qC ne8 ((v2.alloc _).alloc _) (tArg2 (oneC_mem hL) oneC_sm 0 4 (by decide) (by decide) (by decide) (by decide))).mono ?_); rintro e v3 ⟨A3, k3, rfl, hi3, hb3⟩; have hv3 : Below v2.heap.size v2 v3 := Below.step (((Below.refl _ _).alloc (Nat.le_refl _) _).alloc (by simp) _) (by simp only [World.size_alloc]; omega) hb3; have hB3 := Below.step hB2 hB2.size hv3; have hO := hO.keep hv3 hO.lt; have hL := hL.keep hv3 hL.lt; obtain ⟨hc3, hf3⟩ := bcell hv3; obtain ⟨o0, o1, o2, o3, o4⟩ := hO.box)
        | (go_at_call 17; (with_reducible refine (tNextE (c := mI (-1)) (p := mQ) qD ne8 v3 (tArg0 (mI_mem _ _) mI_sm1)).mono ?_); rintro e v4 ⟨A4, k4, rfl, hi4, hb4⟩; have hv4 : Below v3.heap.size v3 v4 := Below.step (Below.refl _ _) (Nat.le_refl _) hb4; have hB4 := Below.step hB3 hB3.size hv4; have hO := hO.keep hv4 hO.lt; have hL := hL.keep hv4 hL.lt; obtain ⟨hc4, hf4⟩ := bcell hv4; obtain ⟨o0, o1, o2, o3, o4⟩ := hO.box)
        | (go_at_call 18; (with_reducible refine (tFirstE (c := mI 1001) (p := mQ) qE ne4 v4 (mI_mem _ _) mI_sm2).mono ?_); rintro e v5 ⟨A5, k5, rfl, hi5, hb5⟩; have hv5 : Below v4.heap.size v4 v5 := Below.step (Below.refl _ _) (Nat.le_refl _) hb5; have hB5 := Below.step hB4 hB4.size hv5; have hO := hO.keep hv5 hO.lt; have hL := hL.keep hv5 hL.lt; obtain ⟨hc5, hf5⟩ := bcell hv5; obtain ⟨o0, o1, o2, o3, o4⟩ := hO.box)
        | (go_at_call 18; (with_reducible refine (tFirstV qF qF1 qF2 v5 (oneC_mem hL) oneC_sm).mono ?_); rintro e v6 ⟨A6, k6, rfl, hi6, hb6⟩; have hv6 : Below v5.heap.size v5 v6 := Below.step (Below.refl _ _) (Nat.le_refl _) hb6; have hB6 := Below.step hB5 hB5.size hv6; have hO := hO.keep hv6 hO.lt; have hL := hL.keep hv6 hL.lt; obtain ⟨hc6, hf6⟩ := bcell hv6; obtain ⟨o0, o1, o2, o3, o4⟩ := hO.box)
        | (go_at_call 17; (with_reducible refine (tNextV qG qF1 qG2 ((v6.alloc _).alloc _) (tArg2 (oneC_mem hL) oneC_sm 2 0 (by decide) (by decide) (by decide) (by decide))).mono ?_); rintro e v7 ⟨A7, k7, rfl, hi7, hb7⟩; have hv7 : Below v6.heap.size v6 v7 := Below.step (((Below.refl _ _).alloc (Nat.le_refl _) _).alloc (by simp) _) (by simp only [World.size_alloc]; omega) hb7; have hB7 := Below.step hB6 hB6.size hv7; have hO := hO.keep hv7 hO.lt; have hL := hL.keep hv7 hL.lt; obtain ⟨hc7, hf7⟩ := bcell hv7; obtain ⟨o0, o1, o2, o3, o4⟩ := hO.box; have hi6 := (hi6.keep hv7).more hv7.size)
        | (go_at_call 19; (with_reducible refine (samTs_self A6 (some ⟨v7.heap.size, 0, none⟩) 1 k6 1 (fun _ => 1) (v7.heap.size + 1) (v7.alloc _) (by omega) ((hi6.keep ((Below.refl _ _).alloc (Nat.le_refl _) _)).more (by omega)) ((one_tr v7 1).more (by simp))).mono ?_); rintro e v8 ⟨rfl, hb8⟩; have hv8 : Below v7.heap.size v7 v8 := Below.step ((Below.refl _ _).alloc (Nat.le_refl _) _) (by simp) hb8; have hB8 := Below.step hB7 hB7.size hv8; have hi7 := (hi7.keep hv8).more hv8.size)
        | (go_at_call 19; (with_reducible refine (samTs_self A7 (some ⟨v8.heap.size, 0, none⟩) 1 k7 1 (fun _ => 2) (v8.heap.size + 1) (v8.alloc _) (by omega) ((hi7.keep ((Below.refl _ _).alloc (Nat.le_refl _) _)).more (by omega)) ((one_tr v8 2).more (by simp))).mono ?_); rintro e v9 ⟨rfl, hb9⟩; have hv9 : Below v8.heap.size v8 v9 := Below.step ((Below.refl _ _).alloc (Nat.le_refl _) _) (by simp) hb9; have hB9 := Below.step hB8 hB8.size hv9)
        | (go_at_call 20; (with_reducible refine (alive5_any v9).mono ?_); rintro e v10 ⟨rfl, hb10⟩; have hB10 := Below.step hB9 hB9.size hb10))
      go_ret
      exact ⟨rfl, hB10⟩

set_option maxRecDepth 100000 in
theorem lifted (os : Os) (started : os.Started) (H : Type) (enc : TypeId × Value → H) :
    ReturnsInHanded {} Try.checked os 3 .any (Rows.ternaryNamesSpec.pre6 enc Try.prog Try.f3 Rows.ternaryNamesRow.domain false) (Rows.ternaryNamesSpec.post enc Try.prog Try.f3 false true false false) := by
  refine returnsInHanded_of_change (C := Try.checked) own started (by kernel_rfl) Try.func3
    (ChangeSpec.witness6 (enc := enc) (C := Try.checked) false ⟨#[], #[], []⟩ 12 (by kernel_rfl) (by kernel_rfl) (by kernel_rfl) (by kernel_rfl)) ?_
  intro W base args ds gs before hval0 hW hcnd _
  have hval : ∀ (j : Nat) t v, Try.f3.params[j]? = some t → args[j]? = some v → Value.okWide Try.prog W .any base t v := hval0
  have hW' := hW
  have hlt : ∀ x ∈ before, x.block < W.heap.size := fun x hx => by simpa using hW'.lt x hx
  obtain ⟨p, q, hA0, hV, rfl, hfz, hnd⟩ := hW
  have hA : DataW.TrodAll enc Try.prog W 0 (fun _ => true) true Try.f3.params.toList args.toList ds p := hA0
  rw [Try.params3] at hA hval
  
  obtain ⟨ha0, rfl, rfl⟩ := trodAll_nil hA
  obtain rfl : args = #[] := by cases args; simp_all
  obtain ⟨rfl, rfl⟩ := trodVars_none hV
  
  have hlo : laidOutB Try.prog = true := by kernel_rfl
  clear hA0 hval0
  simp only [List.append_nil] at hW' hlt
  refine (walk  W ).mono fun e W' ⟨he, hb⟩ => ?_
  subst he
  exact ⟨_, rfl, law_post hW' (trodAll_cons_mk (shut_bool Try.underlying4 _) trodAll_mk0) trodAll_mk0 rfl hb⟩

theorem over : Rows.ternaryNamesRow.holds Try.pinned (OpenSpec.ofChange Rows.ternaryNamesSpec) :=
  OpenClaim.holds_of_wide 3 Try.f3 rfl rfl rfl rfl rfl rfl rfl ⟨rfl, rfl, rfl, rfl, rfl⟩ rfl rfl rfl rfl rfl (by kernel_rfl) Try.func3 (by kernel_rfl)
    (of_decide_eq_true (by kernel_rfl)) (by unfold Func.isWrapper; first | (rw [if_pos (by decide +kernel)]; kernel_rfl) | (rw [if_neg (by decide +kernel)]; exact ⟨rfl, rfl⟩))
    (fun os started H enc _ => lifted os started H enc)

theorem proved : Rows.TernaryNamesSaid :=
  over
end Go.Proofs.Ythpifibemekmcaa.ternaryNames
