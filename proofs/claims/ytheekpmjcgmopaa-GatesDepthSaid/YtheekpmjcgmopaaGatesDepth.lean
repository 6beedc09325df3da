/- For all circuits that are not great and all literals a, b: a gate more at the end of a valid circuit has a depth of one more than the circuit's at most, and its cone has that of its part in it. No conditions. -/
import Derived.Test.YtheekpmjcgmopaaGatesFrame
import Derived.Test.YtheekpmjcgmopaaGatesMore
import Derived.Test.YtheekpmjcgmopaaGatesAlive
import Derived.Test.YtheekpmjcgmopaaGatesRef2
import Derived.Test.YtheekpmjcgmopaaGatesTwin
namespace Go.Proofs.Ytheekpmjcgmopaa.gatesDepth
open Go.ChangeShapes Go.WideShapes Go.ChangeAt Go.RowKit
set_option linter.unusedVariables false
set_option linter.unusedSimpArgs false


theorem own : ownKnob Try.prog.godebug = none := by kernel_rfl

set_option maxRecDepth 100000 in
set_option maxHeartbeats 4000000 in
theorem walk (c0 : Cr) (p0 : Pl) (a1 : Int) (a2 : Int) (w : World) (hm0 : Mem w w.heap.size c0 p0) (hN0 : Nils c0 p0) (hv0 : Vals c0) (w1 : (Lit.int .i64 a1).wf = true) (w2 : (Lit.int .i64 a2).wf = true) :
    Calls Try.prog 9 #[cv c0 p0, .int .i64 a1, .int .i64 a2] w fun e w' => e = .returned (.bool true) ∧ Below w.heap.size w w' := by
  have hv1 := (i64_of w1)
  have hv2 := (i64_of w2)
  unfold I64 at hv1 hv2
  have hB0 : Below w.heap.size w w := Below.refl _ _
  cases hg : c0.gr
  · have hgr := Cr.gr_no hg
    have hs : Sm c0 := hv0.sm (by omega) (by omega) (by omega) (by omega)
    have g1 := hs.nl
    have g2 := hs.na
    cases h : (c0.chk == 0)
    · have h' : (c0.chk != 0) = true := by simp [bne, h]
      go_enter Try.func9, Try.ntmps9
      go_wp2_with (first
        | (go_at_call 17; refine (rGreat_any c0 p0 _).mono ?_; rintro e w1 ⟨rfl, hb1⟩; obtain ⟨hc1, hf1⟩ := bcell hb1; have hz1 : w.heap.size < w1.heap.size := (by have := hb1.size; (try simp at this); omega); have hB1 : Below w.heap.size w w1 := Below.step (by go_grown) (by go_size) hb1; have hA1 : Has w1 w.heap.size 26 (cc c0 p0) := (Has.new _ _ _).keep hb1 (by go_size))
        | (go_at_call 21; refine (rCheck_any c0 p0 _ (hm0.to hB1 hB1.size) hs).mono ?_; rintro e w2 ⟨rfl, hb2⟩; obtain ⟨hc2, hf2⟩ := bcell hb2; have hz2 : w.heap.size < w2.heap.size := (by have := hb2.size; omega); have hB2 := Below.step hB1 hB1.size hb2; have hA2 := hA1.keep hb2 hA1.lt)
        | (go_at_call 16; refine (alive_any _).mono ?_; rintro e w9 ⟨rfl, hb9⟩; have hB9 := Below.step (w := w) hB2 (Below.size hB2) hb9))
      go_ret
      exact ⟨rfl, hB9⟩
    · have h' : (c0.chk != 0) = false := by simp [bne, h]
      have hb := Cr.chk_i h hs
      have hk0 : c0.chk = 0 := by simpa using h
      have hcase : (1000 ≤ c0.sz) ∨ (c0.sz < 1000 ∧ a2 < 0) ∨ (c0.sz < 1000 ∧ 0 ≤ a2 ∧ a1 < a2) ∨ (c0.sz < 1000 ∧ 0 ≤ a2 ∧ a2 ≤ a1 ∧ c0.sz < a1 / 2) ∨ (c0.sz < 1000 ∧ 0 ≤ a2 ∧ a2 ≤ a1 ∧ a1 / 2 ≤ c0.sz) := by omega
      have HK := Lib.hid hk0
      clear hk0
      rcases hcase with a | ⟨a, b⟩ | ⟨a, b, d⟩ | ⟨a, b, d, f⟩ | ⟨a, b, d, f⟩
      case inr.inr.inr.inr =>
        have hmc := Cr.more_chk HK.out a b d f
        have hdp := Cr.more_dpt HK.out hmc
        have hcn := Cr.more_cone HK.out hmc (by omega) f
        have hms : Sm (c0.more a1 a2) := Cr.more_sm hs (by omega) ⟨hv1.1, hv1.2⟩ ⟨hv2.1, hv2.2⟩
        have HM := Lib.hid (And.intro hmc hcn)
        have hlen := hcn.2.1
        have hl1 := Cr.cone_len (c0.more a1 a2) a1 hms
        have hl2 := Cr.cone_len (c0.more a1 a2) (2 * (c0.sz + 1)) hms
        clear hmc hcn
        obtain ⟨i2, hi2, hz2', hs2, hy2⟩ := info_parts info_and
        go_enter Try.func9, Try.ntmps9
        go_wp2_with (first
          | (go_at_call 17; refine (rGreat_any c0 p0 _).mono ?_; rintro e w1 ⟨rfl, hb1⟩; obtain ⟨hc1, hf1⟩ := bcell hb1; have hz1 : w.heap.size < w1.heap.size := (by have := hb1.size; (try simp at this); omega); have hB1 : Below w.heap.size w w1 := Below.step (by go_grown) (by go_size) hb1; have hA1 : Has w1 w.heap.size 26 (cc c0 p0) := (Has.new _ _ _).keep hb1 (by go_size))
          | (go_at_call 21; refine (rCheck_any c0 p0 _ (hm0.to hB1 hB1.size) hs).mono ?_; rintro e w2 ⟨rfl, hb2⟩; obtain ⟨hc2, hf2⟩ := bcell hb2; have hz2 : w.heap.size < w2.heap.size := (by have := hb2.size; omega); have hB2 := Below.step hB1 hB1.size hb2; have hA2 := hA1.keep hb2 hA1.lt)
          | (go_at_call 26; refine (rSize_any c0 p0 _ hb.1 hb.2.1 g1 g2).mono ?_; rintro e w3 ⟨rfl, hb3⟩; obtain ⟨hc3, hf3⟩ := bcell hb3; have hz3 : w.heap.size < w3.heap.size := (by have := hb3.size; omega); have hB2 := Below.step hB2 hB2.size hb3; have hA2 := hA2.keep hb3 hA2.lt)
          | (go_at_call 18; (refine (twin_any c0 p0 _ hs (hm0.to hB2 hB2.size) hN0).mono ?_; rintro e w4 ⟨⟨A1, A2, A3, A4, K1, K2, K3, K4⟩, rfl, hO4, hb4⟩; have hOO := hO4; obtain ⟨⟨gl, el, ol⟩, ⟨gn, en, on⟩, ⟨gd, ed, od⟩, gc, ec, oc⟩ := hO4; dsimp only at el en ed ec; subst el en ed ec; obtain ⟨hc4, hf4⟩ := bcell hb4; have hz4 : w.heap.size < w4.heap.size := (by have := hb4.size; omega); have hB4 := Below.step hB2 hB2.size hb4; have hA4 := hA2.keep hb4 hA2.lt; have hsz2 := hB2.size; have ow1 := own_ge on; have ow2 := own_lt on))
          | (at_builtin
             (refine wpList_append_own_at _ rfl (.tmp 48) (.tmp 52) _ rfl _ 32 i2 _ 2 16 Try.underlying23 hi2 hz2' hs2 hy2 rfl (by decide) _ c0.na (pairL c0.ga c0.gb c0.na) rfl ((on.alloc _).alloc _) ⟨w4.heap.size + 1, 0, none⟩ 1 1 [.int .i64 a1, .int .i64 a2] rfl rfl (by have := two_new (w4.alloc (.cells (cc c0 (mP gl gn gd gc K1 K2 K3 K4)) 26)) (.int .i64 a1) (.int .i64 a2) 32; rw [World.size_alloc] at this; exact this) (by simp [Value.oneCell']) (by simp only [maxLen]; omega) (by omega) (by simp; omega) ?_)
             intro v5 w5 ho5 hg5 hnil5 hat5
             obtain ⟨g5, k5, rfl⟩ := own_form ho5 (fun hh => by rw [hnil5] at hh; cases hh.1)
             obtain ⟨⟨hq5, hp5, hB5, hy5⟩, hQ5, hP5, hB5', hM5⟩ := more_step hB4 hA4 hOO (by omega) hg5 ho5 (hat_of (g' := gn) hat5 (by simp))
             obtain ⟨y0, y1, y2, y3, y4⟩ := hq5.box
             have yf := hq5.fz 2
             obtain ⟨x0, x1, x2, x3, x4⟩ := hP5.box
             clear hg5 ho5 hnil5 hat5 hOO ol on od oc hc1 hc2 hc3 hc4 hf1 hf2 hf3 hf4 hb1 hb2 hb3 hb4)
          | (go_at_call 14; (with_reducible refine (depth0 HK.out p0 _ (hm0.to hB5' hB5'.size) hs).mono ?_); rintro e w6 ⟨rfl, hb6⟩; have hB6 := Below.step hB5' hB5'.size hb6; have hQ6 := hQ5.keep hb6 hQ5.lt; have hM6 := hM5.to hb6 hb6.size; obtain ⟨u0, u1, u2, u3, u4⟩ := hQ6.box)
          | (go_at_call 14; (with_reducible refine (depth0 HM.out.1 (mP gl g5 gd gc K1 k5 K3 K4) _ hM6 hms).mono ?_); rintro e w7 ⟨rfl, hb7⟩; have hB7 := Below.step hB6 hB6.size hb7; have hQ7 := hQ6.keep hb7 hQ6.lt; have hM7 := hM6.to hb7 hb7.size))
        have HQ := Lib.hid hQ7
        have hmul : IntKind.i64.wrap (2 * (c0.sz + 1)) = 2 * (c0.sz + 1) := IntWalk.i64_in _ (by omega)
        clear hQ5 hQ6 hQ7 hM5 hM6 hP5 hB5 hB5' hB6 hq5 hp5 u0 u1 u2 u3 u4 x0 x1 x2 x3 x4 y0 y1 y2 y3 y4
        go_region_held3 (fun w' => Below w7.heap.size w7 w' ∧ w'.cell? ⟨w4.heap.size, 0, none⟩ = some (.int .i64 (c0.more a1 a2).i) ∧ w'.cell? ⟨w4.heap.size, 1, none⟩ = some (.slice (some ⟨gl, 0, none⟩) (c0.more a1 a2).nl K1) ∧ w'.cell? ⟨w4.heap.size, 2, none⟩ = some (.slice (some ⟨g5, 0, none⟩) (c0.more a1 a2).na k5) ∧ w'.cell? ⟨w4.heap.size, 3, none⟩ = some (.slice (some ⟨gd, 0, none⟩) (c0.more a1 a2).nb K3) ∧ w'.cell? ⟨w4.heap.size, 4, none⟩ = some (.slice (some ⟨gc, 0, none⟩) (c0.more a1 a2).nc K4))
          (exact box_at HQ.out (by go_grown))
          (first
            | (go_at_call 26; refine (size0 a1 a2 (mP gl g5 gd gc K1 k5 K3 K4) _ hms hb.1 hb.2.1).mono ?_; rintro e w8 ⟨rfl, hb8⟩; have hB8 : Below w7.heap.size w7 w8 := Below.next (by first | assumption | go_grown) hb8)
            | (go_at_call 13; refine (cone0 HM.out.2.2.2.2 (mP gl g5 gd gc K1 k5 K3 K4) _ (hM7.to2 (Below.refl _ _) (Nat.le_refl _) (by first | assumption | go_grown)) hms).mono ?_; rintro e w9 ⟨A9, k9, rfl, hi9, hb9⟩; have hC9 : Below w7.heap.size w7 w9 := Below.next (by first | assumption | go_grown) hb9))
        have hQ9 := HQ.out.keep hC9 HQ.out.lt
        have hM9 := hM7.to hC9 hC9.size
        have hB9 := Below.step hB7 hB7.size hC9
        obtain ⟨u0, u1, u2, u3, u4⟩ := hQ9.box
        obtain ⟨d1, d2, d3, d4, d5⟩ := hdp
        go_wp2_with (first
          | (go_at_call 13; refine (cone0 HM.out.2.2.2.1 (mP gl g5 gd gc K1 k5 K3 K4) _ hM9 hms).mono ?_; rintro e wA ⟨AA, kA, rfl, hiA, hbA⟩; have hBA := Below.step hB9 hB9.size hbA; have hQA := hQ9.keep hbA hQ9.lt; have hMA := hM9.to hbA hbA.size; have hi9 := (hi9.keep hbA).more hbA.size)
          | (go_at_call 27; refine (has_sub A9 AA k9 kA _ _ _ _ (by omega) (by omega) hi9 hiA HM.out.2.1).mono ?_; rintro e wB ⟨rfl, hbB⟩; have hBB := Below.step hBA hBA.size hbB; have hQB := hQA.keep hbB hQA.lt; have hMB := hMA.to hbB hbB.size; obtain ⟨v0, v1, v2, v3, v4⟩ := hQB.box)
          | (go_at_call 15; refine (check0 HM.out.1 (mP gl g5 gd gc K1 k5 K3 K4) _ hMB hms).mono ?_; rintro e wC ⟨rfl, hbC⟩; have hBC := Below.step hBB hBB.size hbC)
          | (go_at_call 16; refine (alive_any _).mono ?_; rintro e wD ⟨rfl, hbD⟩; have hBD := Below.step hBC hBC.size hbD))
        go_ret
        exact ⟨rfl, hBD⟩
      all_goals
        go_enter Try.func9, Try.ntmps9
        go_wp2_with (first
          | (go_at_call 17; refine (rGreat_any c0 p0 _).mono ?_; rintro e w1 ⟨rfl, hb1⟩; obtain ⟨hc1, hf1⟩ := bcell hb1; have hz1 : w.heap.size < w1.heap.size := (by have := hb1.size; (try simp at this); omega); have hB1 : Below w.heap.size w w1 := Below.step (by go_grown) (by go_size) hb1; have hA1 : Has w1 w.heap.size 26 (cc c0 p0) := (Has.new _ _ _).keep hb1 (by go_size))
          | (go_at_call 21; refine (rCheck_any c0 p0 _ (hm0.to hB1 hB1.size) hs).mono ?_; rintro e w2 ⟨rfl, hb2⟩; obtain ⟨hc2, hf2⟩ := bcell hb2; have hz2 : w.heap.size < w2.heap.size := (by have := hb2.size; omega); have hB2 := Below.step hB1 hB1.size hb2; have hA2 := hA1.keep hb2 hA1.lt)
          | (go_at_call 26; refine (rSize_any c0 p0 _ hb.1 hb.2.1 g1 g2).mono ?_; rintro e w3 ⟨rfl, hb3⟩; obtain ⟨hc3, hf3⟩ := bcell hb3; have hz3 : w.heap.size < w3.heap.size := (by have := hb3.size; omega); have hB2 := Below.step hB2 hB2.size hb3; have hA2 := hA2.keep hb3 hA2.lt)
          | (go_at_call 16; refine (alive_any _).mono ?_; rintro e w9 ⟨rfl, hb9⟩; have hB9 := Below.step (w := w) hB2 (Below.size hB2) hb9))
        go_ret
        exact ⟨rfl, hB9⟩
  · go_enter Try.func9, Try.ntmps9
    go_wp2_with (first
      | (go_at_call 17; refine (rGreat_any c0 p0 _).mono ?_; rintro e w1 ⟨rfl, hb1⟩; obtain ⟨hc1, hf1⟩ := bcell hb1; have hz1 : w.heap.size < w1.heap.size := (by have := hb1.size; (try simp at this); omega); have hB1 : Below w.heap.size w w1 := Below.step (by go_grown) (by go_size) hb1; have hA1 : Has w1 w.heap.size 26 (cc c0 p0) := (Has.new _ _ _).keep hb1 (by go_size))
      | (go_at_call 16; refine (alive_any _).mono ?_; rintro e w9 ⟨rfl, hb9⟩; have hB9 := Below.step (w := w) hB1 (Below.size hB1) hb9))
    go_ret
    exact ⟨rfl, hB9⟩

set_option maxRecDepth 100000 in
theorem lifted (os : Os) (started : os.Started) (H : Type) (enc : TypeId × Value → H) :
    ReturnsInHanded {} Try.checked os 9 .any (Rows.gatesDepthSpec.pre6 enc Try.prog Try.f9 Rows.gatesDepthRow.domain false) (Rows.gatesDepthSpec.post enc Try.prog Try.f9 false true false false) := by
  refine returnsInHanded_of_change (C := Try.checked) own started (by kernel_rfl) Try.func9
    (ChangeSpec.witness6 (enc := enc) (C := Try.checked) false ⟨#[], #[.agg #[.int .i64 0, .slice none 0 0, .slice none 0 0, .slice none 0 0, .slice none 0 0], .int .i64 0, .int .i64 0], []⟩ 12 (by kernel_rfl) (by kernel_rfl) (by kernel_rfl) (by kernel_rfl)) ?_
  intro W base args ds gs before hval0 hW hcnd _
  have hval : ∀ (j : Nat) t v, Try.f9.params[j]? = some t → args[j]? = some v → Value.okWide Try.prog W .any base t v := hval0
  have hW' := hW
  have hlt : ∀ x ∈ before, x.block < W.heap.size := fun x hx => by simpa using hW'.lt x hx
  obtain ⟨p, q, hA0, hV, rfl, hfz, hnd⟩ := hW
  have hA : DataW.TrodAll enc Try.prog W 0 (fun _ => true) true Try.f9.params.toList args.toList ds p := hA0
  rw [Try.params9] at hA hval
  obtain ⟨v0, vs0, d0, ds0, b0, q0, hargs, rfl, rfl, h0, r0⟩ := trodAll_cons hA
  obtain ⟨v1, vs1, d1, ds1, b1, q1, rfl, rfl, rfl, h1, r1⟩ := trodAll_cons r0
  obtain ⟨v2, vs2, d2, ds2, b2, q2, rfl, rfl, rfl, h2, r2⟩ := trodAll_cons r1
  obtain ⟨rfl, rfl, rfl⟩ := trodAll_nil r2
  obtain rfl : args = #[v0, v1, v2] := by cases args; simp_all
  obtain ⟨rfl, rfl⟩ := trodVars_none hV
  obtain ⟨c0, p0, rfl, hm0, hN0, hv0⟩ := open_circ (hval 0 26 v0 rfl rfl) h0
  obtain ⟨a1, rfl, rfl, rfl, w1⟩ := open_int Try.underlying3 (hval 1 3 v1 rfl rfl) h1
  obtain ⟨a2, rfl, rfl, rfl, w2⟩ := open_int Try.underlying3 (hval 2 3 v2 rfl rfl) h2
  have hlo : laidOutB Try.prog = true := by kernel_rfl
  clear hA0 hval0
  simp only [List.append_nil] at hW' hlt
  refine (walk c0 p0 a1 a2 W hm0 hN0 hv0 w1 w2).mono fun e W' ⟨he, hb⟩ => ?_
  subst he
  have hback := (trodAll_cons_mk (arg_back (W' := W') hlo (by kernel_rfl) (of_decide_eq_true (by kernel_rfl)) h0 hb (fun x hx => hlt x (by simp [hx]))) (trodAll_cons_mk (shut_int (enc := enc) (w := W') (base := 0) (spare := fun b => decide (b < W.heap.size)) (held := true) Try.underlying3 w1) (trodAll_cons_mk (shut_int (enc := enc) (w := W') (base := 0) (spare := fun b => decide (b < W.heap.size)) (held := true) Try.underlying3 w2) trodAll_mk0)))
  simp only [List.append_nil, List.nil_append] at hback
  exact ⟨_, rfl, law_post hW' (trodAll_cons_mk (shut_bool Try.underlying4 _) trodAll_mk0) hback rfl hb⟩

theorem over : Rows.gatesDepthRow.holds Try.pinned (OpenSpec.ofChange Rows.gatesDepthSpec) :=
  OpenClaim.holds_of_wide 9 Try.f9 rfl rfl rfl rfl rfl rfl rfl ⟨rfl, rfl, rfl, rfl, rfl⟩ rfl rfl rfl rfl rfl (by kernel_rfl) Try.func9 (by kernel_rfl)
    (of_decide_eq_true (by kernel_rfl)) (by unfold Func.isWrapper; first | (rw [if_pos (by decide +kernel)]; kernel_rfl) | (rw [if_neg (by decide +kernel)]; exact ⟨rfl, rfl⟩))
    (fun os started H enc _ => lifted os started H enc)

theorem proved : Rows.GatesDepthSaid :=
  over
end Go.Proofs.Ytheekpmjcgmopaa.gatesDepth
