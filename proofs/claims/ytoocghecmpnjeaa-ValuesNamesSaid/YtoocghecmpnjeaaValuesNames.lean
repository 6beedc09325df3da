/- The chapter's examples of layer 4, properties, states and inputs that there are not, and errors. -/
import Derived.Test.YtoocghecmpnjeaaValuesNamesKit
namespace Go.Proofs.Ytoocghecmpnjeaa.valuesNames
open Go.ChangeShapes Go.WideShapes Go.ChangeAt Go.RowKit
set_option linter.unusedVariables false
set_option linter.unusedSimpArgs false


theorem own : ownKnob Try.prog.godebug = none := by kernel_rfl

set_option maxRecDepth 100000 in
set_option maxHeartbeats 4000000 in
theorem walk  (w : World)  :
    Calls Try.prog 9 #[] w fun e w' => e = .returned (.bool true) ∧ Below w.heap.size w w' := by
  have hBx : Below w.heap.size w ((w.alloc (.cells #[.bool true] 4)).alloc (.cells #[.bool true, .bool false] 4)) := ((Below.refl _ _).alloc (Nat.le_refl _) _).alloc (by simp) _
  have ho : BlsAt ((w.alloc (.cells #[.bool true] 4)).alloc (.cells #[.bool true, .bool false] 4)) ((w.alloc (.cells #[.bool true] 4)).alloc (.cells #[.bool true, .bool false] 4)).heap.size (some ⟨w.heap.size, 0, none⟩) 1 (fun _ => true) := bls_of_has ((Has.new w 4 #[.bool true]).al _) (bAt1 true)
  have ht : BlsAt ((w.alloc (.cells #[.bool true] 4)).alloc (.cells #[.bool true, .bool false] 4)) ((w.alloc (.cells #[.bool true] 4)).alloc (.cells #[.bool true, .bool false] 4)).heap.size (some ⟨w.heap.size + 1, 0, none⟩) 2 tf := bls_of_has (Has.new' _ _ (by simp)) tf_at
  go_enter Try.func9, Try.ntmps9
  go_wp2_with (first
    | (go_at_call 35; (with_reducible refine (ex4_any ((w.alloc (.cells #[.bool true] 4)).alloc (.cells #[.bool true, .bool false] 4))).mono ?_); rintro e w1 ⟨p1, rfl, hm1, hb1⟩; have hB1 := Below.step hBx hBx.size hb1; have ho := (ho.keep hb1).more hb1.size; have ht := (ht.keep hb1).more hb1.size)
    | (go_at_call 34; (with_reducible refine (allE (s := fun _ => false) (t := tf) kA (by decide) w1 ⟨hm1, exV_sm, blsNil, ht, (fun _ => ⟨rfl, rfl⟩), (fun h => by cases h), by omega, by omega⟩).mono ?_); rintro e w2 ⟨A2, k2, rfl, hi2, hb2⟩; have hB2 := Below.step hB1 hB1.size hb2; have ho := (ho.keep hb2).more hb2.size; have ht := (ht.keep hb2).more hb2.size)
    | (go_at_call 35; (with_reducible refine (ex4_any w2).mono ?_); rintro e w3 ⟨p3, rfl, hm3, hb3⟩; have hB3 := Below.step hB2 hB2.size hb3; have ho := (ho.keep hb3).more hb3.size; have ht := (ht.keep hb3).more hb3.size)
    | (go_at_call 36; (with_reducible refine (nextE (s := tf) (t := tf) kB (by decide) w3 ⟨hm3, exV_sm, ht, ht, (fun h => by cases h), (fun h => by cases h), by omega, by omega⟩).mono ?_); rintro e w4 ⟨A4, k4, rfl, hi4, hb4⟩; have hB4 := Below.step hB3 hB3.size hb4; have ho := (ho.keep hb4).more hb4.size; have ht := (ht.keep hb4).more hb4.size)
    | (go_at_call 35; (with_reducible refine (ex4_any w4).mono ?_); rintro e w5 ⟨p5, rfl, hm5, hb5⟩; have hB5 := Below.step hB4 hB4.size hb5; have ho := (ho.keep hb5).more hb5.size; have ht := (ht.keep hb5).more hb5.size)
    | (go_at_call 37; (with_reducible refine (propsE (s := fun _ => true) (t := fun _ => true) kC (by decide) w5 ⟨hm5, exV_sm, ho, ho, (fun h => by cases h), (fun h => by cases h), by omega, by omega⟩).mono ?_); rintro e w6 ⟨A6, k6, rfl, hi6, hb6⟩; have hB6 := Below.step hB5 hB5.size hb6; have ho := (ho.keep hb6).more hb6.size; have ht := (ht.keep hb6).more hb6.size)
    | (go_at_call 34; (with_reducible refine (allE (c := nI (-1)) (p := nP) (s := fun _ => true) (t := fun _ => true) kD (by decide) w6 ⟨nI_mem _ _, nI_sm _ (i64_k (-1) (by decide) (by decide)), ho, ho, (fun h => by cases h), (fun h => by cases h), by omega, by omega⟩).mono ?_); rintro e w7 ⟨A7, k7, rfl, hi7, hb7⟩; have hB7 := Below.step hB6 hB6.size hb7; have ho := (ho.keep hb7).more hb7.size; have ht := (ht.keep hb7).more hb7.size)
    | (go_at_call 36; (with_reducible refine (nextE (c := nB) (p := ⟨none, none, some ⟨w7.heap.size, 0, none⟩, none, 0, 0, 1, 0⟩) kE (by decide) (w7.alloc (.cells #[.int .i64 2] 3)) (argN (nB_mem (Has.new _ _ _)) nB_sm)).mono ?_); rintro e w8 ⟨A8, k8, rfl, hi8, hb8⟩; have hv8 : Below w7.heap.size w7 w8 := Below.step ((Below.refl _ _).alloc (Nat.le_refl _) _) (by simp) hb8; have hB8 := Below.step hB7 hB7.size hv8; have ho := (ho.keep hv8).more hv8.size; have ht := (ht.keep hv8).more hv8.size)
    | (go_at_call 37; (with_reducible refine (propsE (c := nI 1001) (p := nP) kF (by decide) w8 (argN (nI_mem _ _) (nI_sm _ (i64_k 1001 (by decide) (by decide))))).mono ?_); rintro e w9 ⟨A9, k9, rfl, hi9, hb9⟩; have hB9 := Below.step hB8 hB8.size hb9; have ho := (ho.keep hb9).more hb9.size; have ht := (ht.keep hb9).more hb9.size)
    | (go_at_call 35; (with_reducible refine (ex4_any w9).mono ?_); rintro e w10 ⟨p10, rfl, hm10, hb10⟩; have hB10 := Below.step hB9 hB9.size hb10; have ho := (ho.keep hb10).more hb10.size; have ht := (ht.keep hb10).more hb10.size)
    | (go_at_call 37; (with_reducible refine (propsV (s := fun _ => true) (t := tf) exV_ask kG kV kG2 w10 ⟨hm10, exV_sm, ho, ht, (fun h => by cases h), (fun h => by cases h), by omega, by omega⟩).mono ?_); rintro e w11 ⟨A11, k11, rfl, hi11, hb11⟩; have hB11 := Below.step hB10 hB10.size hb11; have ho := (ho.keep hb11).more hb11.size; have ht := (ht.keep hb11).more hb11.size)
    | (go_at_call 35; (with_reducible refine (ex4_any w11).mono ?_); rintro e w12 ⟨p12, rfl, hm12, hb12⟩; have hB12 := Below.step hB11 hB11.size hb12; have ho := (ho.keep hb12).more hb12.size; have ht := (ht.keep hb12).more hb12.size; have hi11 := (hi11.keep hb12).more hb12.size)
    | (go_at_call 37; (with_reducible refine (propsV exV_ask kH kV kH2 _ (arg2 hm12 exV_sm (by omega) (by omega) (bAt1 false) ft_at)).mono ?_); rintro e w13 ⟨A13, k13, rfl, hi13, hb13⟩; have hv13 : Below w12.heap.size w12 w13 := Below.step (((Below.refl _ _).alloc (Nat.le_refl _) _).alloc (by simp) _) (by simp; omega) hb13; have hB13 := Below.step hB12 hB12.size hv13; have ho := (ho.keep hv13).more hv13.size; have ht := (ht.keep hv13).more hv13.size; have hi11 := (hi11.keep hv13).more hv13.size)
    | (go_at_call 34; (with_reducible refine (allV (c := nI 0) (p := nP) kI kI2 kI3 w13 (argN (nI_mem _ _) (nI_sm _ i64z))).mono ?_); rintro e w14 ⟨A14, k14, rfl, hi14, hb14⟩; have hB14 := Below.step hB13 hB13.size hb14; have ho := (ho.keep hb14).more hb14.size; have ht := (ht.keep hb14).more hb14.size; have hi11 := (hi11.keep hb14).more hb14.size; have hi13 := (hi13.keep hb14).more hb14.size)
    | (go_at_call 37; (with_reducible refine (propsV (c := nC 1) (p := ⟨none, none, none, some ⟨w14.heap.size, 0, none⟩, 0, 0, 0, 2⟩) kJ kJ2 (kN 1) (no0 _ (fun _ => false)) (w14.alloc (.cells #[.int .i64 1, .int .i64 1] 3)) (argN (nC_mem (Has.new _ _ _)) (nC_sm _ (i64_k 1 (by decide) (by decide))))).mono ?_); rintro e w15 ⟨A15, k15, rfl, hi15, hb15⟩; have hv15 : Below w14.heap.size w14 w15 := Below.step ((Below.refl _ _).alloc (Nat.le_refl _) _) (by simp) hb15; have hB15 := Below.step hB14 hB14.size hv15; have ho := (ho.keep hv15).more hv15.size; have ht := (ht.keep hv15).more hv15.size; have hi11 := (hi11.keep hv15).more hv15.size; have hi13 := (hi13.keep hv15).more hv15.size; have hi14 := (hi14.keep hv15).more hv15.size)
    | (go_at_call 37; (with_reducible refine (propsV (c := nC 0) (p := ⟨none, none, none, some ⟨w15.heap.size, 0, none⟩, 0, 0, 0, 2⟩) kK kK2 (kN 0) (no0 _ (fun _ => false)) (w15.alloc (.cells #[.int .i64 1, .int .i64 0] 3)) (argN (nC_mem (Has.new _ _ _)) (nC_sm _ i64z))).mono ?_); rintro e w16 ⟨A16, k16, rfl, hi16, hb16⟩; have hv16 : Below w15.heap.size w15 w16 := Below.step ((Below.refl _ _).alloc (Nat.le_refl _) _) (by simp) hb16; have hB16 := Below.step hB15 hB15.size hv16; have ho := (ho.keep hv16).more hv16.size; have ht := (ht.keep hv16).more hv16.size; have hi11 := (hi11.keep hv16).more hv16.size; have hi13 := (hi13.keep hv16).more hv16.size; have hi14 := (hi14.keep hv16).more hv16.size; have hY : Below w16.heap.size w16 (((w16.alloc (.cells #[.bool false, .bool true] 4)).alloc (.cells #[.bool false, .bool true] 4)).alloc (.cells #[.bool false, .bool true] 4)) := (((Below.refl _ _).alloc (Nat.le_refl _) _).alloc (by simp) _).alloc (by simp; omega) _)
    | (go_at_call 38; (with_reducible refine (of_at (F := ft2) (n := 2) vL (w16.heap.size + 1) (w16.alloc _) ((bls_of_has (Has.new _ _ _) ft_at).more (by simp)) (by omega) (by omega) (by omega)).mono ?_); rintro e w17 ⟨rfl, rfl⟩)
    | (go_at_call 38; (with_reducible refine (of_no _ 2 2 4 _ (by omega)).mono ?_); rintro e w17 ⟨rfl, rfl⟩)
    | (go_at_call 38; (with_reducible refine (of_no _ 2 2 (-1) _ (by omega)).mono ?_); rintro e w17 ⟨rfl, rfl⟩)
    | (go_at_call 39; (with_reducible refine (samBs_self A11 (some ⟨w.heap.size, 0, none⟩) 1 k11 1 (fun _ => true) w16.heap.size (((w16.alloc (.cells #[.bool false, .bool true] 4)).alloc (.cells #[.bool false, .bool true] 4)).alloc (.cells #[.bool false, .bool true] 4)) (by omega) (hi11.keep hY) (ho.keep hY)).mono ?_); rintro e w18 ⟨rfl, hb18⟩; have hv18 : Below w16.heap.size w16 w18 := Below.step ((((Below.refl _ _).alloc (Nat.le_refl _) _).alloc (by simp) _).alloc (by simp; omega) _) (by simp; omega) hb18; have hB18 := Below.step hB16 hB16.size hv18; have ho := (ho.keep hv18).more hv18.size; have hi13 := (hi13.keep hv18).more hv18.size; have hi14 := (hi14.keep hv18).more hv18.size)
    | (go_at_call 39; (with_reducible refine (samBs_self A13 (some ⟨w.heap.size, 0, none⟩) 1 k13 1 (fun _ => true) w18.heap.size w18 (by omega) hi13 ho).mono ?_); rintro e w19 ⟨rfl, hb19⟩; have hB19 := Below.step hB18 hB18.size hb19; have hi14 := (hi14.keep hb19).more hb19.size)
    | (go_at_call 39; (with_reducible refine (samBs_self A14 (some ⟨w19.heap.size, 0, none⟩) 1 k14 1 (fun _ => false) (w19.heap.size + 1) (w19.alloc _) (by omega) ((hi14.keep ((Below.refl _ _).alloc (Nat.le_refl _) _)).more (by omega)) ((bls_of_has (Has.new _ _ _) (bAt1 false)).more (by simp))).mono ?_); rintro e w20 ⟨rfl, hb20⟩; have hB20 := Below.step hB19 hB19.size (Below.step ((Below.refl _ _).alloc (Nat.le_refl _) _) (by simp) hb20))
    | (go_at_call 40; refine (alive4_any _).mono ?_; rintro e w21 ⟨rfl, hb21⟩; have hB21 := Below.step hB20 hB20.size hb21))
  go_ret
  exact ⟨rfl, hB21⟩

set_option maxRecDepth 100000 in
theorem lifted (os : Os) (started : os.Started) (H : Type) (enc : TypeId × Value → H) :
    ReturnsInHanded {} Try.checked os 9 .any (Rows.valuesNamesSpec.pre6 enc Try.prog Try.f9 Rows.valuesNamesRow.domain false) (Rows.valuesNamesSpec.post enc Try.prog Try.f9 false true false false) := by
  refine returnsInHanded_of_change (C := Try.checked) own started (by kernel_rfl) Try.func9
    (ChangeSpec.witness6 (enc := enc) (C := Try.checked) false ⟨#[], #[], []⟩ 12 (by kernel_rfl) (by kernel_rfl) (by kernel_rfl) (by kernel_rfl)) ?_
  intro W base args ds gs before hval0 hW hcnd _
  have hval : ∀ (j : Nat) t v, Try.f9.params[j]? = some t → args[j]? = some v → Value.okWide Try.prog W .any base t v := hval0
  have hW' := hW
  have hlt : ∀ x ∈ before, x.block < W.heap.size := fun x hx => by simpa using hW'.lt x hx
  obtain ⟨p, q, hA0, hV, rfl, hfz, hnd⟩ := hW
  have hA : DataW.TrodAll enc Try.prog W 0 (fun _ => true) true Try.f9.params.toList args.toList ds p := hA0
  rw [Try.params9] at hA hval
  
  obtain ⟨ha0, rfl, rfl⟩ := trodAll_nil hA
  obtain rfl : args = #[] := by cases args; simp_all
  obtain ⟨rfl, rfl⟩ := trodVars_none hV
  
  have hlo : laidOutB Try.prog = true := by kernel_rfl
  clear hA0 hval0
  simp only [List.append_nil] at hW' hlt
  refine (walk  W ).mono fun e W' ⟨he, hb⟩ => ?_
  subst he
  exact ⟨_, rfl, law_post hW' (trodAll_cons_mk (shut_bool Try.underlying4 _) trodAll_mk0) trodAll_mk0 rfl hb⟩

theorem over : Rows.valuesNamesRow.holds Try.pinned (OpenSpec.ofChange Rows.valuesNamesSpec) :=
  OpenClaim.holds_of_wide 9 Try.f9 rfl rfl rfl rfl rfl rfl rfl ⟨rfl, rfl, rfl, rfl, rfl⟩ rfl rfl rfl rfl rfl (by kernel_rfl) Try.func9 (by kernel_rfl)
    (of_decide_eq_true (by kernel_rfl)) (by unfold Func.isWrapper; first | (rw [if_pos (by decide +kernel)]; kernel_rfl) | (rw [if_neg (by decide +kernel)]; exact ⟨rfl, rfl⟩))
    (fun os started H enc _ => lifted os started H enc)

theorem proved : Rows.ValuesNamesSaid :=
  over
end Go.Proofs.Ytoocghecmpnjeaa.valuesNames
