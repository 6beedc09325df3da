/- For all circuits that are not great, states and inputs of them with at most 100 truth values: without TeAny the ternary values of all variables, and the next state, are those of layer 4. No conditions. -/
import Derived.Test.YthpifibemekmcaaTernTwoKit
namespace Go.Proofs.Ythpifibemekmcaa.ternaryTwo
open Go.ChangeShapes Go.WideShapes Go.ChangeAt Go.RowKit
set_option linter.unusedVariables false
set_option linter.unusedSimpArgs false


theorem own : ownKnob Try.prog.godebug = none := by kernel_rfl

set_option maxRecDepth 100000 in
set_option maxHeartbeats 4000000 in
theorem walk (c0 : Cr) (p0 : Pl) (A1 : Option Addr) (n1 k1 : Nat) (f1 : Nat → Bool) (A2 : Option Addr) (n2 k2 : Nat) (f2 : Nat → Bool) (w : World) (hm0 : Mem w w.heap.size c0 p0) (hN0 : Nils c0 p0) (hv0 : Vals c0) (hC0 : Caps c0 p0) (hm1 : BlsAt w w.heap.size A1 n1 f1) (hN1 : A1 = none → n1 = 0 ∧ k1 = 0) (hC1 : n1 ≤ k1 ∧ k1 ≤ maxLen) (hm2 : BlsAt w w.heap.size A2 n2 f2) (hN2 : A2 = none → n2 = 0 ∧ k2 = 0) (hC2 : n2 ≤ k2 ∧ k2 ≤ maxLen) :
    Calls Try.prog 7 #[cv c0 p0, .slice A1 n1 k1, .slice A2 n2 k2] w fun e w' => e = .returned (.bool true) ∧ Below w.heap.size w w' := by
  cases hg : c0.gr
  case true =>
    go_enter Try.func7, Try.ntmps7
    go_wp2_with (first
      | (go_at_call 21; refine (rGreat_any c0 p0 _).mono ?_; rintro e u1 ⟨rfl, hb1⟩; have hB1 : Below w.heap.size w u1 := Below.step (by go_grown) (by go_size) hb1)
      | (go_at_call 20; (with_reducible refine (alive5_any u1).mono ?_); rintro e uz ⟨rfl, hbz⟩; have hBz : Below w.heap.size w uz := Below.step hB1 hB1.size hbz))
    go_ret
    exact ⟨rfl, hBz⟩
  have hgr := Cr.gr_no hg
  have hs : Sm c0 := hv0.sm (by omega) (by omega) (by omega) (by omega)
  by_cases h1 : 100 < n1
  · clear hgr
    go_enter Try.func7, Try.ntmps7
    go_wp2_with (first
      | (go_at_call 21; refine (rGreat_any c0 p0 _).mono ?_; rintro e u1 ⟨rfl, hb1⟩; have hB1 : Below w.heap.size w u1 := Below.step (by go_grown) (by go_size) hb1)
      | (go_at_call 20; (with_reducible refine (alive5_any u1).mono ?_); rintro e uz ⟨rfl, hbz⟩; have hBz : Below w.heap.size w uz := Below.step hB1 hB1.size hbz))
    go_ret
    exact ⟨rfl, hBz⟩
  by_cases h2 : 100 < n2
  · clear hgr
    go_enter Try.func7, Try.ntmps7
    go_wp2_with (first
      | (go_at_call 21; refine (rGreat_any c0 p0 _).mono ?_; rintro e u1 ⟨rfl, hb1⟩; have hB1 : Below w.heap.size w u1 := Below.step (by go_grown) (by go_size) hb1)
      | (go_at_call 20; (with_reducible refine (alive5_any u1).mono ?_); rintro e uz ⟨rfl, hbz⟩; have hBz : Below w.heap.size w uz := Below.step hB1 hB1.size hbz))
    go_ret
    exact ⟨rfl, hBz⟩
  have g0 : Arg w w.heap.size c0 p0 A1 n1 k1 f1 A2 n2 k2 f2 := ⟨hm0, hs, hm1, hm2, hN1, hN2, by omega, by omega⟩
  by_cases hk : c0.ask n1 n2 = 0
  case neg =>
    have t0 : (c0.ask n1 n2 != 0) = true := by simpa [bne] using hk
    clear hgr hk
    go_enter Try.func7, Try.ntmps7
    go_wp2_with (first
      | (go_at_call 21; refine (rGreat_any c0 p0 _).mono ?_; rintro e u1 ⟨rfl, hb1⟩; obtain ⟨hc1, hf1⟩ := bcell hb1; have hz1 : w.heap.size < u1.heap.size := (by have := hb1.size; (try simp at this); omega); have hB1 : Below w.heap.size w u1 := Below.step (by go_grown) (by go_size) hb1)
      | (go_at_call 31; (with_reducible refine (rAsked_at u1 (g0.to hB1 hB1.size)).mono ?_); rintro e u2 ⟨rfl, hb2⟩; have hB2 : Below w.heap.size w u2 := Below.step hB1 hB1.size hb2)
      | (go_at_call 20; (with_reducible refine (alive5_any u2).mono ?_); rintro e uz ⟨rfl, hbz⟩; have hBz : Below w.heap.size w uz := Below.step hB2 hB2.size hbz))
    go_ret
    exact ⟨rfl, hBz⟩
  have HK := Lib.hid hk
  obtain ⟨hck, hns, hni⟩ := Cr.ask_zero hk
  have hfn := Cr.fg_bd hck
  have gl := hs.nl
  clear hgr hk hck hns hni
  have hBx0 : Below w.heap.size w w := Below.refl _ _
  go_enter Try.func7, Try.ntmps7
  go_wp2_with (first
    | (go_at_call 21; refine (rGreat_any c0 p0 _).mono ?_; rintro e u1 ⟨rfl, hb1⟩; obtain ⟨hc1, hf1⟩ := bcell hb1; have hz1 : w.heap.size < u1.heap.size := (by have := hb1.size; (try simp at this); omega); have hB1 : Below w.heap.size w u1 := Below.step (by go_grown) (by go_size) hb1; have hA1 : Has u1 w.heap.size 38 (cc c0 p0) := (Has.new _ _ _).keep hb1 (by go_size))
    | (go_at_call 31; (with_reducible refine (rAsked_ok HK.out u1 (g0.to hB1 hB1.size)).mono ?_); rintro e u2 ⟨rfl, hb2⟩; have hB2 : Below w.heap.size w u2 := Below.step hB1 hB1.size hb2; have hA2 : Has u2 w.heap.size 38 (cc c0 p0) := hA1.keep hb2 hA1.lt; clear hc1 hf1 hb1 hb2))
  have hSd : Has u2.drew w.heap.size 38 (cc c0 p0) := hA2
  have hS0 := boxS hSd
  have hBd : Below w.heap.size w u2.drew := below_dn hB2 1
  refine wp_region_T (BoxS c0 p0 w.heap.size) 11 (by kernel_rfl) ?_
  (refine wpT_take 0 (v := ?_) rfl (by kernel_rfl) (by kernel_rfl) (by kernel_rfl) (by kernel_rfl) (fun _ _ _ h => h) rfl hS0 (fun w hS => ?_) ?_; rotate_left; focus (obtain ⟨j0, j1, j2, j3, j4⟩ := hS; go_simp; rfl)); (refine wpT_take 1 (v := ?_) rfl (by kernel_rfl) (by kernel_rfl) (by kernel_rfl) (by kernel_rfl) (fun _ _ _ h => h) rfl hS0 (fun w hS => ?_) ?_; rotate_left; focus (obtain ⟨j0, j1, j2, j3, j4⟩ := hS; go_simp; rfl)); (refine wpT_take 3 (v := ?_) rfl (by kernel_rfl) (by kernel_rfl) (by kernel_rfl) (by kernel_rfl) (fun _ _ _ h => h) rfl hS0 (fun w hS => ?_) ?_; rotate_left; focus (obtain ⟨j0, j1, j2, j3, j4⟩ := hS; go_simp; rfl))
  refine wpT_one 2 (by kernel_rfl) (wpOp_go rfl rfl fun K hK => ?_)
  go_simp
  go_at_call 32
  (with_reducible refine (tOfN_any A1 n1 k1 f1 w.heap.size u2.drew (by omega) hBd.size (hm1.keep hBd)).mono ?_)
  rintro e u3 ⟨A3, k3, rfl, hi3, hn3, hb3⟩
  have hB3 : Below w.heap.size w u3 := Below.step hBd hBd.size hb3
  have hA3 : Has u3 w.heap.size 38 (cc c0 p0) := hSd.keep hb3 hSd.lt
  refine hK _ _ ⟨fun _ => boxS hA3, ?_⟩
  refine wpT_one 4 (by kernel_rfl) (wpOp_go rfl rfl fun K hK => ?_)
  go_simp
  go_at_call 32
  (with_reducible refine (tOfN_any A2 n2 k2 f2 w.heap.size u3 (by omega) hB3.size (hm2.keep hB3)).mono ?_)
  rintro e u4 ⟨A4, k4, rfl, hi4, hn4, hb4⟩
  have hB4 : Below w.heap.size w u4 := Below.step hB3 hB3.size hb4
  have hA4 : Has u4 w.heap.size 38 (cc c0 p0) := hA3.keep hb4 hA3.lt
  have hi3 := (hi3.keep hb4).more hb4.size
  refine hK _ _ ⟨fun _ => boxS hA4, ?_⟩
  refine wpT_one 5 (by kernel_rfl) (wpOp_go rfl rfl fun K hK => ?_)
  go_simp
  go_at_call 16
  (with_reducible refine (allTwo HK.out u4 (hm0.to hB4 hB4.size) hs hi3 hi4 hn3 hn4).mono ?_)
  rintro e u5 ⟨A5, k5, rfl, hi5, hb5⟩
  have hB5 : Below w.heap.size w u5 := Below.step hB4 hB4.size hb5
  have hA5 : Has u5 w.heap.size 38 (cc c0 p0) := hA4.keep hb5 hA4.lt
  have hS0 := boxS hA5
  refine hK _ _ ⟨fun _ => hS0, ?_⟩
  (refine wpT_take 6 (v := ?_) rfl (by kernel_rfl) (by kernel_rfl) (by kernel_rfl) (by kernel_rfl) (fun _ _ _ h => h) rfl hS0 (fun w hS => ?_) ?_; rotate_left; focus (obtain ⟨j0, j1, j2, j3, j4⟩ := hS; go_simp; rfl)); (refine wpT_take 7 (v := ?_) rfl (by kernel_rfl) (by kernel_rfl) (by kernel_rfl) (by kernel_rfl) (fun _ _ _ h => h) rfl hS0 (fun w hS => ?_) ?_; rotate_left; focus (obtain ⟨j0, j1, j2, j3, j4⟩ := hS; go_simp; rfl)); (refine wpT_take 8 (v := ?_) rfl (by kernel_rfl) (by kernel_rfl) (by kernel_rfl) (by kernel_rfl) (fun _ _ _ h => h) rfl hS0 (fun w hS => ?_) ?_; rotate_left; focus (obtain ⟨j0, j1, j2, j3, j4⟩ := hS; go_simp; rfl)); (refine wpT_take 9 (v := ?_) rfl (by kernel_rfl) (by kernel_rfl) (by kernel_rfl) (by kernel_rfl) (fun _ _ _ h => h) rfl hS0 (fun w hS => ?_) ?_; rotate_left; focus (obtain ⟨j0, j1, j2, j3, j4⟩ := hS; go_simp; rfl)); (refine wpT_take 10 (v := ?_) rfl (by kernel_rfl) (by kernel_rfl) (by kernel_rfl) (by kernel_rfl) (fun _ _ _ h => h) rfl hS0 (fun w hS => ?_) ?_; rotate_left; focus (obtain ⟨j0, j1, j2, j3, j4⟩ := hS; go_simp; rfl))
  refine wpT_done (by kernel_rfl) (NoPanic.normal ?_) _
  obtain ⟨o0, o1, o2, o3, o4⟩ := hA5.box
  clear hS0 hSd hBd
  go_wp2_with (first
    | (go_at_call 33; (with_reducible refine (all_at HK.out u5 (g0.to hB5 hB5.size)).mono ?_); rintro e u6 ⟨A6, k6, rfl, hi6, hb6⟩; have hB6 : Below w.heap.size w u6 := Below.step hB5 hB5.size hb6; have hi5 := (hi5.keep hb6).more hb6.size; have hA6 : Has u6 w.heap.size 38 (cc c0 p0) := hA5.keep hb6 hA5.lt))
  clear o0 o1 o2 o3 o4
  have hSd : Has u6.drew w.heap.size 38 (cc c0 p0) := hA6
  have hS0 := boxS hSd
  have hBd : Below w.heap.size w u6.drew := below_dn hB6 1
  have hi5 : TrAt u6.drew u6.drew.heap.size A5 _ _ := hi5
  have hi6 : BlsAt u6.drew u6.drew.heap.size A6 _ _ := hi6
  refine wp_region_T (BoxS c0 p0 w.heap.size) 11 (by kernel_rfl) ?_
  (refine wpT_take 0 (v := ?_) rfl (by kernel_rfl) (by kernel_rfl) (by kernel_rfl) (by kernel_rfl) (fun _ _ _ h => h) rfl hS0 (fun w hS => ?_) ?_; rotate_left; focus (obtain ⟨j0, j1, j2, j3, j4⟩ := hS; go_simp; rfl)); (refine wpT_take 1 (v := ?_) rfl (by kernel_rfl) (by kernel_rfl) (by kernel_rfl) (by kernel_rfl) (fun _ _ _ h => h) rfl hS0 (fun w hS => ?_) ?_; rotate_left; focus (obtain ⟨j0, j1, j2, j3, j4⟩ := hS; go_simp; rfl)); (refine wpT_take 3 (v := ?_) rfl (by kernel_rfl) (by kernel_rfl) (by kernel_rfl) (by kernel_rfl) (fun _ _ _ h => h) rfl hS0 (fun w hS => ?_) ?_; rotate_left; focus (obtain ⟨j0, j1, j2, j3, j4⟩ := hS; go_simp; rfl))
  refine wpT_one 2 (by kernel_rfl) (wpOp_go rfl rfl fun K hK => ?_)
  go_simp
  go_at_call 32
  (with_reducible refine (tOfN_any A1 n1 k1 f1 w.heap.size u6.drew (by omega) hBd.size (hm1.keep hBd)).mono ?_)
  rintro e u7 ⟨A7, k7, rfl, hi7, hn7, hb7⟩
  have hB7 : Below w.heap.size w u7 := Below.step hBd hBd.size hb7
  have hA7 : Has u7 w.heap.size 38 (cc c0 p0) := hSd.keep hb7 hSd.lt
  have hi5 := (hi5.keep hb7).more hb7.size
  have hi6 := (hi6.keep hb7).more hb7.size
  refine hK _ _ ⟨fun _ => boxS hA7, ?_⟩
  refine wpT_one 4 (by kernel_rfl) (wpOp_go rfl rfl fun K hK => ?_)
  go_simp
  go_at_call 32
  (with_reducible refine (tOfN_any A2 n2 k2 f2 w.heap.size u7 (by omega) hB7.size (hm2.keep hB7)).mono ?_)
  rintro e u8 ⟨A8, k8, rfl, hi8, hn8, hb8⟩
  have hB8 : Below w.heap.size w u8 := Below.step hB7 hB7.size hb8
  have hA8 : Has u8 w.heap.size 38 (cc c0 p0) := hA7.keep hb8 hA7.lt
  have hi5 := (hi5.keep hb8).more hb8.size
  have hi6 := (hi6.keep hb8).more hb8.size
  have hi7 := (hi7.keep hb8).more hb8.size
  refine hK _ _ ⟨fun _ => boxS hA8, ?_⟩
  refine wpT_one 5 (by kernel_rfl) (wpOp_go rfl rfl fun K hK => ?_)
  go_simp
  go_at_call 17
  (with_reducible refine (nextTwo HK.out u8 (hm0.to hB8 hB8.size) hs hi7 hi8 hn7 hn8).mono ?_)
  rintro e u9 ⟨A9, k9, rfl, hi9, hb9⟩
  have hB9 : Below w.heap.size w u9 := Below.step hB8 hB8.size hb9
  have hA9 : Has u9 w.heap.size 38 (cc c0 p0) := hA8.keep hb9 hA8.lt
  have hi5 := (hi5.keep hb9).more hb9.size
  have hi6 := (hi6.keep hb9).more hb9.size
  have hS0 := boxS hA9
  refine hK _ _ ⟨fun _ => hS0, ?_⟩
  (refine wpT_take 6 (v := ?_) rfl (by kernel_rfl) (by kernel_rfl) (by kernel_rfl) (by kernel_rfl) (fun _ _ _ h => h) rfl hS0 (fun w hS => ?_) ?_; rotate_left; focus (obtain ⟨j0, j1, j2, j3, j4⟩ := hS; go_simp; rfl)); (refine wpT_take 7 (v := ?_) rfl (by kernel_rfl) (by kernel_rfl) (by kernel_rfl) (by kernel_rfl) (fun _ _ _ h => h) rfl hS0 (fun w hS => ?_) ?_; rotate_left; focus (obtain ⟨j0, j1, j2, j3, j4⟩ := hS; go_simp; rfl)); (refine wpT_take 8 (v := ?_) rfl (by kernel_rfl) (by kernel_rfl) (by kernel_rfl) (by kernel_rfl) (fun _ _ _ h => h) rfl hS0 (fun w hS => ?_) ?_; rotate_left; focus (obtain ⟨j0, j1, j2, j3, j4⟩ := hS; go_simp; rfl)); (refine wpT_take 9 (v := ?_) rfl (by kernel_rfl) (by kernel_rfl) (by kernel_rfl) (by kernel_rfl) (fun _ _ _ h => h) rfl hS0 (fun w hS => ?_) ?_; rotate_left; focus (obtain ⟨j0, j1, j2, j3, j4⟩ := hS; go_simp; rfl)); (refine wpT_take 10 (v := ?_) rfl (by kernel_rfl) (by kernel_rfl) (by kernel_rfl) (by kernel_rfl) (fun _ _ _ h => h) rfl hS0 (fun w hS => ?_) ?_; rotate_left; focus (obtain ⟨j0, j1, j2, j3, j4⟩ := hS; go_simp; rfl))
  refine wpT_done (by kernel_rfl) (NoPanic.normal ?_) _
  obtain ⟨o0, o1, o2, o3, o4⟩ := hA9.box
  clear hS0 hSd hBd
  go_wp2_with (first
    | (go_at_call 34; (with_reducible refine (next_yes HK.out u9 (g0.to hB9 hB9.size)).mono ?_); rintro e u10 ⟨A10, k10, rfl, hi10, hb10⟩; have hB10 : Below w.heap.size w u10 := Below.step hB9 hB9.size hb10; have hi5 := (hi5.keep hb10).more hb10.size; have hi6 := (hi6.keep hb10).more hb10.size; have hi9 := (hi9.keep hb10).more hb10.size)
    | (go_at_call 32; (with_reducible refine (tOf_any A6 (c0.fg + c0.na) k6 (c0.fr f1 f2) u10.heap.size u10 (by omega) (Nat.le_refl _) hi6).mono ?_); rintro e u11 ⟨A11, k11, rfl, hi11, hb11⟩; have hB11 : Below w.heap.size w u11 := Below.step hB10 hB10.size hb11; have hi5 := (hi5.keep hb11).more hb11.size; have hi9 := (hi9.keep hb11).more hb11.size; have hi10 := (hi10.keep hb11).more hb11.size)
    | (go_at_call 19; (with_reducible refine (samTs_self A5 A11 (c0.fg + c0.na) k5 k11 (fun v => b3 (c0.fr f1 f2 v)) u11.heap.size u11 (by omega) hi5 hi11).mono ?_); rintro e u12 ⟨rfl, hb12⟩; have hB12 : Below w.heap.size w u12 := Below.step hB11 hB11.size hb12; have hi9 := (hi9.keep hb12).more hb12.size; have hi10 := (hi10.keep hb12).more hb12.size)
    | (go_at_call 32; (with_reducible refine (tOf_any A10 c0.nl k10 (c0.nv f1 f2) u12.heap.size u12 (by omega) (Nat.le_refl _) hi10).mono ?_); rintro e u13 ⟨A13, k13, rfl, hi13, hb13⟩; have hB13 : Below w.heap.size w u13 := Below.step hB12 hB12.size hb13; have hi9 := (hi9.keep hb13).more hb13.size)
    | (go_at_call 19; (with_reducible refine (samTs_self A9 A13 c0.nl k9 k13 (fun v => b3 (c0.nv f1 f2 v)) u13.heap.size u13 (by omega) hi9 hi13).mono ?_); rintro e u14 ⟨rfl, hb14⟩; have hB14 : Below w.heap.size w u14 := Below.step hB13 hB13.size hb14)
    | (go_at_call 20; (with_reducible refine (alive5_any u14).mono ?_); rintro e u15 ⟨rfl, hb15⟩; have hB15 : Below w.heap.size w u15 := Below.step hB14 hB14.size hb15))
  go_ret
  exact ⟨rfl, hB15⟩

set_option maxRecDepth 100000 in
theorem lifted (os : Os) (started : os.Started) (H : Type) (enc : TypeId × Value → H) :
    ReturnsInHanded {} Try.checked os 7 .any (Rows.ternaryTwoSpec.pre6 enc Try.prog Try.f7 Rows.ternaryTwoRow.domain false) (Rows.ternaryTwoSpec.post enc Try.prog Try.f7 false true false false) := by
  refine returnsInHanded_of_change (C := Try.checked) own started (by kernel_rfl) Try.func7
    (ChangeSpec.witness6 (enc := enc) (C := Try.checked) false ⟨#[], #[.agg #[.int .i64 0, .slice none 0 0, .slice none 0 0, .slice none 0 0, .slice none 0 0], .slice none 0 0, .slice none 0 0], []⟩ 12 (by kernel_rfl) (by kernel_rfl) (by kernel_rfl) (by kernel_rfl)) ?_
  intro W base args ds gs before hval0 hW hcnd _
  have hval : ∀ (j : Nat) t v, Try.f7.params[j]? = some t → args[j]? = some v → Value.okWide Try.prog W .any base t v := hval0
  have hW' := hW
  have hlt : ∀ x ∈ before, x.block < W.heap.size := fun x hx => by simpa using hW'.lt x hx
  obtain ⟨p, q, hA0, hV, rfl, hfz, hnd⟩ := hW
  have hA : DataW.TrodAll enc Try.prog W 0 (fun _ => true) true Try.f7.params.toList args.toList ds p := hA0
  rw [Try.params7] at hA hval
  obtain ⟨v0, vs0, d0, ds0, b0, q0, hargs, rfl, rfl, h0, r0⟩ := trodAll_cons hA
  obtain ⟨v1, vs1, d1, ds1, b1, q1, rfl, rfl, rfl, h1, r1⟩ := trodAll_cons r0
  obtain ⟨v2, vs2, d2, ds2, b2, q2, rfl, rfl, rfl, h2, r2⟩ := trodAll_cons r1
  obtain ⟨rfl, rfl, rfl⟩ := trodAll_nil r2
  obtain rfl : args = #[v0, v1, v2] := by cases args; simp_all
  obtain ⟨rfl, rfl⟩ := trodVars_none hV
  obtain ⟨c0, p0, rfl, hm0, hN0, hv0, hC0⟩ := open_circ (hval 0 38 v0 rfl rfl) h0
  obtain ⟨A1, n1, k1, f1, rfl, hm1, hN1, hC1⟩ := open_bl (hval 1 59 v1 rfl rfl) h1
  obtain ⟨A2, n2, k2, f2, rfl, hm2, hN2, hC2⟩ := open_bl (hval 2 59 v2 rfl rfl) h2
  have hlo : laidOutB Try.prog = true := by kernel_rfl
  clear hA0 hval0
  simp only [List.append_nil] at hW' hlt
  refine (walk c0 p0 A1 n1 k1 f1 A2 n2 k2 f2 W hm0 hN0 hv0 hC0 hm1 hN1 hC1 hm2 hN2 hC2).mono fun e W' ⟨he, hb⟩ => ?_
  subst he
  have hback := (trodAll_cons_mk (arg_back (W' := W') hlo (by kernel_rfl) (of_decide_eq_true (by kernel_rfl)) h0 hb (fun x hx => hlt x (by simp [hx]))) (trodAll_cons_mk (arg_back (W' := W') hlo (by kernel_rfl) (of_decide_eq_true (by kernel_rfl)) h1 hb (fun x hx => hlt x (by simp [hx]))) (trodAll_cons_mk (arg_back (W' := W') hlo (by kernel_rfl) (of_decide_eq_true (by kernel_rfl)) h2 hb (fun x hx => hlt x (by simp [hx]))) trodAll_mk0)))
  simp only [List.append_nil, List.nil_append] at hback
  exact ⟨_, rfl, law_post hW' (trodAll_cons_mk (shut_bool Try.underlying4 _) trodAll_mk0) hback rfl hb⟩

theorem over : Rows.ternaryTwoRow.holds Try.pinned (OpenSpec.ofChange Rows.ternaryTwoSpec) :=
  OpenClaim.holds_of_wide 7 Try.f7 rfl rfl rfl rfl rfl rfl rfl ⟨rfl, rfl, rfl, rfl, rfl⟩ rfl rfl rfl rfl rfl (by kernel_rfl) Try.func7 (by kernel_rfl)
    (of_decide_eq_true (by kernel_rfl)) (by unfold Func.isWrapper; first | (rw [if_pos (by decide +kernel)]; kernel_rfl) | (rw [if_neg (by decide +kernel)]; exact ⟨rfl, rfl⟩))
    (fun os started H enc _ => lifted os started H enc)

theorem proved : Rows.TernaryTwoSaid :=
  over
end Go.Proofs.Ythpifibemekmcaa.ternaryTwo
