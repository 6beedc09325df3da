/- For all circuits that are not great, states and inputs of them, and literals a, b: with a gate more at the end that has these parts, the gate has the AND of them as its value, and all others stay as they are. No conditions. -/
import Derived.Test.YtoocghecmpnjeaaValuesMoreKit
namespace Go.Proofs.Ytoocghecmpnjeaa.valuesMore
open Go.ChangeShapes Go.WideShapes Go.ChangeAt Go.RowKit
set_option linter.unusedVariables false
set_option linter.unusedSimpArgs false


theorem own : ownKnob Try.prog.godebug = none := by kernel_rfl

set_option maxRecDepth 100000 in
set_option maxHeartbeats 4000000 in
theorem walk (c0 : Cr) (p0 : Pl) (A1 : Option Addr) (n1 k1 : Nat) (f1 : Nat → Bool) (A2 : Option Addr) (n2 k2 : Nat) (f2 : Nat → Bool) (a3 : Int) (a4 : Int) (w : World) (hm0 : Mem w w.heap.size c0 p0) (hN0 : Nils c0 p0) (hv0 : Vals c0) (hC0 : Caps c0 p0) (hm1 : BlsAt w w.heap.size A1 n1 f1) (hN1 : A1 = none → n1 = 0 ∧ k1 = 0) (hC1 : n1 ≤ k1 ∧ k1 ≤ maxLen) (hm2 : BlsAt w w.heap.size A2 n2 f2) (hN2 : A2 = none → n2 = 0 ∧ k2 = 0) (hC2 : n2 ≤ k2 ∧ k2 ≤ maxLen) (w3 : (Lit.int .i64 a3).wf = true) (w4 : (Lit.int .i64 a4).wf = true) :
    Calls Try.prog 14 #[cv c0 p0, .slice A1 n1 k1, .slice A2 n2 k2, .int .i64 a3, .int .i64 a4] w fun e w' => e = .returned (.bool true) ∧ Below w.heap.size w w' := by
  have hv3 := (i64_of w3)
  have hv4 := (i64_of w4)
  unfold I64 at hv3 hv4
  clear w3 w4
  cases hft : c0.ft n1 n2
  case false =>
    go_enter Try.func14, Try.ntmps14
    go_wp2_with (first
      | (go_at_call 45; (with_reducible refine (fit_no (s := f1) (t := f2) hft (w.alloc _) (hm0.to (by go_grown) (by go_size)) hv0).mono ?_); rintro e wa ⟨rfl, hb1⟩; have hB2 : Below w.heap.size w wa := Below.step (by go_grown) (by go_size) hb1)
      | (go_at_call 40; refine (alive4_any _).mono ?_; rintro e wz ⟨rfl, hb9⟩; have hB9 := Below.step (w := w) hB2 (Below.size hB2) hb9))
    go_ret
    exact ⟨rfl, hB9⟩
  case true =>
    obtain ⟨hg, q1, q2, hk0⟩ := Cr.ft_yes hft
    have hgr := Cr.gr_no hg
    have hs : Sm c0 := hv0.sm (by omega) (by omega) (by omega) (by omega)
    have g1 := hs.nl
    have g2 := hs.na
    have hg0 : Arg w w.heap.size c0 p0 A1 n1 k1 f1 A2 n2 k2 f2 := ⟨hm0, hs, hm1, hm2, hN1, hN2, by omega, by omega⟩
    have hck := (Cr.ask_zero hk0).1
    have hb := Cr.chk_i (c := c0) (by simpa using hck) hs
    have hcase : (1000 ≤ c0.sz) ∨ (c0.sz < 1000 ∧ a4 < 0) ∨ (c0.sz < 1000 ∧ 0 ≤ a4 ∧ a3 < a4) ∨ (c0.sz < 1000 ∧ 0 ≤ a4 ∧ a4 ≤ a3 ∧ c0.sz < a3 / 2) ∨ (c0.sz < 1000 ∧ 0 ≤ a4 ∧ a4 ≤ a3 ∧ a3 / 2 ≤ c0.sz) := by omega
    have HK := Lib.hid hk0
    have HC := Lib.hid hck
    clear hk0 hck hg
    rcases hcase with a | ⟨a, b⟩ | ⟨a, b, d⟩ | ⟨a, b, d, f⟩ | ⟨a, b, d, f⟩
    case inr.inr.inr.inr =>
      have hmc := Cr.more_chk HC.out a b d f
      have hms : Sm (c0.more a3 a4) := Cr.more_sm hs (by omega) ⟨hv3.1, hv3.2⟩ ⟨hv4.1, hv4.2⟩
      have HM := Lib.hid hmc
      have HMK := Lib.hid (Cr.more_ask HK.out hmc)
      have efg : c0.fg + c0.na ≤ c0.sz + 1 ∧ c0.sz + 1 ≤ c0.fg + c0.na := by have : c0.sz = c0.i + c0.nl + c0.na := rfl; unfold Cr.fg; omega
      obtain ⟨N, hN⟩ : ∃ N, N = c0.fg + c0.na := ⟨_, rfl⟩
      have HN := Lib.hid hN
      have HL := Lib.hid (Cr.more_fr_last (c := c0) (a := a3) (b := a4) (s := f1) (t := f2))
      have b1 : a3 ≤ 2001 := by omega
      have b2 : a4 ≤ 2001 := by omega
      have b3 : 0 ≤ a3 := by omega
      have b4 : a3 / 2 < (N : Int) := by omega
      have b5 : a4 / 2 < (N : Int) := by omega
      have b6 : N ≤ 1001 := by omega
      clear hmc efg hN
      have hF : Hid (∀ j, j < N → (c0.more a3 a4).fr f1 f2 j = c0.fr f1 f2 j) := fun j hj => Cr.more_fr (by have := HN.out; omega)
      obtain ⟨M, hM⟩ : ∃ M, M = N + 1 := ⟨_, rfl⟩
      have eN : Hid ((c0.more a3 a4).fg + (c0.more a3 a4).na = M) := by show _ = _; rw [hM, HN.out]; rfl
      have hNM : N < M := by omega
      have hNz : (0 : Int) ≤ (N : Int) := by omega
      have hNy : (N : Int) < (M : Int) := by omega
      have hNx : (N : Int) ≤ (M : Int) := by omega
      have hNe : ((M : Int) != (N : Int) + 1) = false := by rw [hM]; simp
      clear hM
      obtain ⟨i2, hi2, hz2', hs2, hy2⟩ := info_parts info_and
      have key : ∀ x y : Bool, vlo (c0.fr f1 f2) a3 = x → vlo (c0.fr f1 f2) a4 = y → Calls Try.prog 14 #[cv c0 p0, .slice A1 n1 k1, .slice A2 n2 k2, .int .i64 a3, .int .i64 a4] w fun e w' => e = .returned (.bool true) ∧ Below w.heap.size w w' := by
        intro x y hx hy
        have HX := Lib.hid hx
        have HY := Lib.hid hy
        have HXY := Lib.hid (show (c0.more a3 a4).fr f1 f2 N = (x && y) by rw [HN.out, HL.out, hx, hy])
        clear hx hy
        go_enter Try.func14, Try.ntmps14
        go_wp2_with (first
          | (go_at_call 45; (with_reducible refine (fit_yes hft (w.alloc _) (hg0.to (by go_grown) (by go_size))).mono ?_); rintro e wa ⟨rfl, hb1⟩; obtain ⟨hc1, hf1⟩ := bcell hb1; have hz1 : w.heap.size < wa.heap.size := (by have := hb1.size; (try simp at this); omega); have hB1 : Below w.heap.size w wa := Below.step (by go_grown) (by go_size) hb1; have hA1 : Has wa w.heap.size 26 (cc c0 p0) := (Has.new _ _ _).keep hb1 (by go_size); have hB2 := hB1; have hA2 := hA1)
          | (go_at_call 32; refine (rSize_any c0 p0 _ hb.1 hb.2.1 g1 g2).mono ?_; rintro e wb ⟨rfl, hb3⟩; obtain ⟨hc3, hf3⟩ := bcell hb3; have hz3 : w.heap.size < wb.heap.size := (by have := hb3.size; omega); have hB2 := Below.step hB2 hB2.size hb3; have hA2 := hA2.keep hb3 hA2.lt)
          | (go_at_call 41; (refine (twin_any c0 p0 _ hs (hm0.to hB2 hB2.size) hN0).mono ?_; rintro e w4 ⟨⟨B1, B2, B3, B4, K1, K2, K3, K4⟩, rfl, hO4, hb4⟩; have hOO := hO4; obtain ⟨⟨gl, el, ol⟩, ⟨gn, en, on⟩, ⟨gd, ed, od⟩, gc, ec, oc⟩ := hO4; dsimp only at el en ed ec; subst el en ed ec; obtain ⟨hc4, hf4⟩ := bcell hb4; have hz4 : w.heap.size < w4.heap.size := (by have := hb4.size; omega); have hB4 := Below.step hB2 hB2.size hb4; have hA4 := hA2.keep hb4 hA2.lt; have hsz2 := hB2.size; have ow1 := own_ge on; have ow2 := own_lt on))
          | (at_builtin
             (refine wpList_append_own_at _ rfl (.tmp 46) (.tmp 50) _ rfl _ 37 i2 _ 2 16 Try.underlying23 hi2 hz2' hs2 hy2 rfl (by decide) _ c0.na (pairL c0.ga c0.gb c0.na) rfl ((on.alloc _).alloc _) ⟨w4.heap.size + 1, 0, none⟩ 1 1 [.int .i64 a3, .int .i64 a4] rfl rfl (by have := two_new (w4.alloc (.cells (cc c0 (mP gl gn gd gc K1 K2 K3 K4)) 26)) (.int .i64 a3) (.int .i64 a4) 37; rw [World.size_alloc] at this; exact this) (by simp [Value.oneCell']) (by simp only [maxLen]; omega) (by omega) (by simp; omega) ?_)
             intro v5 w5 ho5 hg5 hnil5 hat5
             obtain ⟨g5, k5, rfl⟩ := own_form ho5 (fun hh => by rw [hnil5] at hh; cases hh.1)
             obtain ⟨⟨hq5, hp5, hB5, hy5⟩, hQ5, hP5, hB5', hM5⟩ := more_step hB4 hA4 hOO (by omega) hg5 ho5 (hat_of (g' := gn) hat5 (by simp))
             obtain ⟨y0, y1, y2, y3, y4⟩ := hq5.box
             have yf := hq5.fz 2
             obtain ⟨x0, x1, x2, x3, x4⟩ := hP5.box
             have hgm : Arg _ _ (c0.more a3 a4) (mP gl g5 gd gc K1 k5 K3 K4) A1 n1 k1 f1 A2 n2 k2 f2 := ⟨hM5, hms, hm1.to hB5' hB5'.size, hm2.to hB5' hB5'.size, hN1, hN2, by omega, by omega⟩
             clear hg5 ho5 hnil5 hat5 hOO ol on od oc hc1 hc3 hc4 hf1 hf3 hf4 hb1 hb3 hb4)
          | (go_at_call 34; (with_reducible refine (all_fl HK.out _ (hg0.to hB5' hB5'.size)).mono ?_); rintro e w6 ⟨g6, rfl, hi6, hb6⟩; rw [← HN.out] at hi6 ⊢; have hB6 := Below.step hB5' hB5'.size hb6; have hQ6 := hQ5.keep hb6 hQ5.lt; have hgm6 := hgm.to hb6 hb6.size; obtain ⟨u0, u1, u2, u3, u4⟩ := hQ6.box)
          | (go_at_call 34; (with_reducible refine (all_fl HMK.out w6 hgm6).mono ?_); rintro e w7 ⟨g7, rfl, hi7, hb7⟩; rw [eN.out] at hi7 ⊢; have hB7 := Below.step hB6 hB6.size hb7; have hi6 := (hi6.keep hb7).more hb7.size)
          | (go_at_call 39; (with_reducible refine (samBs_eq (some ⟨g7, 0, none⟩) (some ⟨g6, 0, none⟩) N _ _ _ _ _ w7 (by omega) (hi7.first (by omega)) hi6 hF.out).mono ?_); rintro e w8 ⟨rfl, hb8⟩; have hB8 := Below.step hB7 hB7.size hb8; have hi6 := (hi6.keep hb8).more hb8.size; have hi7 := (hi7.keep hb8).more hb8.size))
        obtain ⟨hgl, hc8⟩ := hi7.cell (j := N) (by omega)
        rw [HXY.out] at hc8
        have D1 := Lib.hid (st_call (is_any (some ⟨g6, 0, none⟩) N N (c0.fr f1 f2) a3 w8.heap.size w8.drew hi6 b3 b1 b4))
        have D2 := Lib.hid (st_call (is_any (some ⟨g6, 0, none⟩) N N (c0.fr f1 f2) a4 w8.heap.size w8.drew hi6 b b2 b5))
        rw [HX.out] at D1
        rw [HY.out] at D2
        have hB8' := Lib.hid hB8
        clear hi6 hi7 hgm hgm6 hM5 hP5 hQ5 hQ6 hq5 hp5 u0 u1 u2 u3 u4 x0 x1 x2 x3 x4 y0 y1 y2 y3 y4 hB5 hB5' hB6 hB7 hB8 hb6 hb7 hb8
        cases x
        · simp only [Bool.false_and] at hc8
          go_still_tail 15, (by kernel_rfl)
          refine Stl.h ?_
          (refine stl_call (a' := ?_) (by kernel_rfl) ?_ D1.out ?_ ?_; rotate_left; (focus (first | (go_simp; rfl) | (go_simp; done))); (focus (first | (go_simp; rfl) | (go_simp; done) | rfl)))
          (refine stl_val (v := ?_) (a' := ?_) (by kernel_rfl) ?_ ?_ ?_; rotate_left 2; (focus (first | exact BigFrame.run_move _ rfl _ | (go_simp; rfl) | (go_simp; done))); (focus (first | (go_simp; rfl) | (go_simp; done) | rfl)))
          iterate 3 (refine stl_skip (a' := ?_) (by kernel_rfl) ?_ ?_; rotate_left; (focus (first | (go_simp; rfl) | (go_simp; done) | rfl)))
          iterate 3 (refine stl_val (v := ?_) (a' := ?_) (by kernel_rfl) ?_ ?_ ?_; rotate_left 2; (focus (first | exact BigFrame.run_move _ rfl _ | (go_simp; rfl) | (go_simp; done))); (focus (first | (go_simp; rfl) | (go_simp; done) | rfl)))
          refine stl_nil ?_
          change wpList _ _ _ _ _ w8.drew
          have hBd : Below w.heap.size w w8.drew := below_dn hB8'.out 1
          obtain ⟨wd, hwd⟩ : ∃ wd, w8.drew = wd := ⟨_, rfl⟩
          rw [hwd] at hBd ⊢
          clear hwd
          go_wp2_with (go_at_call 40; refine (alive4_any _).mono ?_; rintro e w9 ⟨rfl, hb9⟩; have hC9 := Below.step hBd hBd.size hb9)
          go_ret
          exact ⟨rfl, hC9⟩
        · simp only [Bool.true_and] at hc8
          go_still_tail 15, (by kernel_rfl)
          refine Stl.h ?_
          (refine stl_call (a' := ?_) (by kernel_rfl) ?_ D1.out ?_ ?_; rotate_left; (focus (first | (go_simp; rfl) | (go_simp; done))); (focus (first | (go_simp; rfl) | (go_simp; done) | rfl)))
          iterate 3 (refine stl_val (v := ?_) (a' := ?_) (by kernel_rfl) ?_ ?_ ?_; rotate_left 2; (focus (first | exact BigFrame.run_move _ rfl _ | (go_simp; rfl) | (go_simp; done))); (focus (first | (go_simp; rfl) | (go_simp; done) | rfl)))
          (refine stl_call (a' := ?_) (by kernel_rfl) ?_ D2.out ?_ ?_; rotate_left; (focus (first | (go_simp; rfl) | (go_simp; done))); (focus (first | (go_simp; rfl) | (go_simp; done) | rfl)))
          iterate 3 (refine stl_val (v := ?_) (a' := ?_) (by kernel_rfl) ?_ ?_ ?_; rotate_left 2; (focus (first | exact BigFrame.run_move _ rfl _ | (go_simp; rfl) | (go_simp; done))); (focus (first | (go_simp; rfl) | (go_simp; done) | rfl)))
          refine stl_nil ?_
          change wpList _ _ _ _ _ w8.drew
          have hBd : Below w.heap.size w w8.drew := below_dn hB8'.out 1
          obtain ⟨wd, hwd⟩ : ∃ wd, w8.drew = wd := ⟨_, rfl⟩
          rw [hwd] at hBd ⊢
          clear hwd
          go_wp2_with (go_at_call 40; refine (alive4_any _).mono ?_; rintro e w9 ⟨rfl, hb9⟩; have hC9 := Below.step hBd hBd.size hb9)
          go_ret
          exact ⟨rfl, hC9⟩
      exact key _ _ rfl rfl
    all_goals
      go_enter Try.func14, Try.ntmps14
      go_wp2_with (first
        | (go_at_call 45; (with_reducible refine (fit_yes hft (w.alloc _) (hg0.to (by go_grown) (by go_size))).mono ?_); rintro e wa ⟨rfl, hb1⟩; obtain ⟨hc1, hf1⟩ := bcell hb1; have hz1 : w.heap.size < wa.heap.size := (by have := hb1.size; (try simp at this); omega); have hB1 : Below w.heap.size w wa := Below.step (by go_grown) (by go_size) hb1; have hA1 : Has wa w.heap.size 26 (cc c0 p0) := (Has.new _ _ _).keep hb1 (by go_size); have hB2 := hB1; have hA2 := hA1)
        | (go_at_call 32; refine (rSize_any c0 p0 _ hb.1 hb.2.1 g1 g2).mono ?_; rintro e wb ⟨rfl, hb3⟩; obtain ⟨hc3, hf3⟩ := bcell hb3; have hz3 : w.heap.size < wb.heap.size := (by have := hb3.size; omega); have hB2 := Below.step hB2 hB2.size hb3; have hA2 := hA2.keep hb3 hA2.lt)
        | (go_at_call 40; refine (alive4_any _).mono ?_; rintro e wz ⟨rfl, hb9⟩; have hB9 := Below.step (w := w) hB2 (Below.size hB2) hb9))
      go_ret
      exact ⟨rfl, hB9⟩

set_option maxRecDepth 100000 in
theorem lifted (os : Os) (started : os.Started) (H : Type) (enc : TypeId × Value → H) :
    ReturnsInHanded {} Try.checked os 14 .any (Rows.valuesMoreSpec.pre6 enc Try.prog Try.f14 Rows.valuesMoreRow.domain false) (Rows.valuesMoreSpec.post enc Try.prog Try.f14 false true false false) := by
  refine returnsInHanded_of_change (C := Try.checked) own started (by kernel_rfl) Try.func14
    (ChangeSpec.witness6 (enc := enc) (C := Try.checked) false ⟨#[], #[.agg #[.int .i64 0, .slice none 0 0, .slice none 0 0, .slice none 0 0, .slice none 0 0], .slice none 0 0, .slice none 0 0, .int .i64 0, .int .i64 0], []⟩ 12 (by kernel_rfl) (by kernel_rfl) (by kernel_rfl) (by kernel_rfl)) ?_
  intro W base args ds gs before hval0 hW hcnd _
  have hval : ∀ (j : Nat) t v, Try.f14.params[j]? = some t → args[j]? = some v → Value.okWide Try.prog W .any base t v := hval0
  have hW' := hW
  have hlt : ∀ x ∈ before, x.block < W.heap.size := fun x hx => by simpa using hW'.lt x hx
  obtain ⟨p, q, hA0, hV, rfl, hfz, hnd⟩ := hW
  have hA : DataW.TrodAll enc Try.prog W 0 (fun _ => true) true Try.f14.params.toList args.toList ds p := hA0
  rw [Try.params14] at hA hval
  obtain ⟨v0, vs0, d0, ds0, b0, q0, hargs, rfl, rfl, h0, r0⟩ := trodAll_cons hA
  obtain ⟨v1, vs1, d1, ds1, b1, q1, rfl, rfl, rfl, h1, r1⟩ := trodAll_cons r0
  obtain ⟨v2, vs2, d2, ds2, b2, q2, rfl, rfl, rfl, h2, r2⟩ := trodAll_cons r1
  obtain ⟨v3, vs3, d3, ds3, b3, q3, rfl, rfl, rfl, h3, r3⟩ := trodAll_cons r2
  obtain ⟨v4, vs4, d4, ds4, b4, q4, rfl, rfl, rfl, h4, r4⟩ := trodAll_cons r3
  obtain ⟨rfl, rfl, rfl⟩ := trodAll_nil r4
  obtain rfl : args = #[v0, v1, v2, v3, v4] := by cases args; simp_all
  obtain ⟨rfl, rfl⟩ := trodVars_none hV
  obtain ⟨c0, p0, rfl, hm0, hN0, hv0, hC0⟩ := open_circ (hval 0 26 v0 rfl rfl) h0
  obtain ⟨A1, n1, k1, f1, rfl, hm1, hN1, hC1⟩ := open_bl (hval 1 63 v1 rfl rfl) h1
  obtain ⟨A2, n2, k2, f2, rfl, hm2, hN2, hC2⟩ := open_bl (hval 2 63 v2 rfl rfl) h2
  obtain ⟨a3, rfl, rfl, rfl, w3⟩ := open_int Try.underlying3 (hval 3 3 v3 rfl rfl) h3
  obtain ⟨a4, rfl, rfl, rfl, w4⟩ := open_int Try.underlying3 (hval 4 3 v4 rfl rfl) h4
  have hlo : laidOutB Try.prog = true := by kernel_rfl
  clear hA0 hval0
  simp only [List.append_nil] at hW' hlt
  refine (walk c0 p0 A1 n1 k1 f1 A2 n2 k2 f2 a3 a4 W hm0 hN0 hv0 hC0 hm1 hN1 hC1 hm2 hN2 hC2 w3 w4).mono fun e W' ⟨he, hb⟩ => ?_
  subst he
  have hback := (trodAll_cons_mk (arg_back (W' := W') hlo (by kernel_rfl) (of_decide_eq_true (by kernel_rfl)) h0 hb (fun x hx => hlt x (by simp [hx]))) (trodAll_cons_mk (arg_back (W' := W') hlo (by kernel_rfl) (of_decide_eq_true (by kernel_rfl)) h1 hb (fun x hx => hlt x (by simp [hx]))) (trodAll_cons_mk (arg_back (W' := W') hlo (by kernel_rfl) (of_decide_eq_true (by kernel_rfl)) h2 hb (fun x hx => hlt x (by simp [hx]))) (trodAll_cons_mk (shut_int (enc := enc) (w := W') (base := 0) (spare := fun b => decide (b < W.heap.size)) (held := true) Try.underlying3 w3) (trodAll_cons_mk (shut_int (enc := enc) (w := W') (base := 0) (spare := fun b => decide (b < W.heap.size)) (held := true) Try.underlying3 w4) trodAll_mk0)))))
  simp only [List.append_nil, List.nil_append] at hback
  exact ⟨_, rfl, law_post hW' (trodAll_cons_mk (shut_bool Try.underlying4 _) trodAll_mk0) hback rfl hb⟩

theorem over : Rows.valuesMoreRow.holds Try.pinned (OpenSpec.ofChange Rows.valuesMoreSpec) :=
  OpenClaim.holds_of_wide 14 Try.f14 rfl rfl rfl rfl rfl rfl rfl ⟨rfl, rfl, rfl, rfl, rfl⟩ rfl rfl rfl rfl rfl (by kernel_rfl) Try.func14 (by kernel_rfl)
    (of_decide_eq_true (by kernel_rfl)) (by unfold Func.isWrapper; first | (rw [if_pos (by decide +kernel)]; kernel_rfl) | (rw [if_neg (by decide +kernel)]; exact ⟨rfl, rfl⟩))
    (fun os started H enc _ => lifted os started H enc)

theorem proved : Rows.ValuesMoreSaid :=
  over
end Go.Proofs.Ytoocghecmpnjeaa.valuesMore
