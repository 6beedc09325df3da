/- For all clauses and values: the empty clause is not true, any other one is under the values that make its first literal true. No conditions. -/
import Derived.Test.YtigfdfbjpelcaaaClVals
import Derived.BigRegion
namespace Go.Proofs.Ytigfdfbjpelcaaa.clauseEmpty
open Go.ChangeShapes Go.WideShapes Go.ChangeAt Go.RowKit
set_option linter.unusedVariables false
set_option linter.unusedSimpArgs false

theorem bL_set (f : Nat → Bool) (n p : Nat) (u : Bool) : (bL f n).set p (.bool u) = bL (fun j => if j = p then u else f j) n := by
  refine List.ext_getElem? fun j => ?_
  rw [List.getElem?_set]
  have l1 := bL_len f n
  have l2 := bL_len (fun j => if j = p then u else f j) n
  rcases Nat.lt_or_ge j n with hj | hj
  · have h1 := bL_at (fun j => if j = p then u else f j) n j hj
    rw [h1]
    by_cases e : p = j
    · subst e
      rw [if_pos rfl, if_pos (by omega)]
      simp
    · rw [if_neg e, bL_at f n j hj]
      simp only [if_neg (fun h : j = p => e h.symm)]
  · have h1 : (bL (fun j => if j = p then u else f j) n)[j]? = none := List.getElem?_eq_none (by omega)
    rw [h1]
    by_cases e : p = j
    · subst e
      rw [if_pos rfl, if_neg (by omega)]
    · rw [if_neg e, List.getElem?_eq_none (by omega)]

theorem own : ownKnob Try.prog.godebug = none := by kernel_rfl

set_option maxRecDepth 100000 in
set_option maxHeartbeats 4000000 in
theorem walk (A0 : Option Addr) (l0 : List Int) (k0 : Nat) (A1 : Option Addr) (n1 k1 : Nat) (f1 : Nat → Bool) (w : World) (hm0 : Ia w w.heap.size A0 l0 k0) (hr0 : ∀ x ∈ l0, I64 x) (hK0 : k0 ≤ maxLen) (hm1 : BlsAt w w.heap.size A1 n1 f1) (hN1 : A1 = none → n1 = 0 ∧ k1 = 0) (hC1 : n1 ≤ k1 ∧ k1 ≤ maxLen) :
    Calls Try.prog 9 #[.slice A0 l0.length k0, .slice A1 n1 k1] w fun e w' => e = .returned (.bool true) ∧ Below w.heap.size w w' := by
  have hl0 : l0.length ≤ 9223372036854775807 := Nat.le_trans hm0.c hK0
  have hn63 : n1 ≤ 9223372036854775807 := Nat.le_trans hC1.1 hC1.2
  by_cases hg : 4000 < n1
  · have g1 : (4000 : Int) < (n1 : Int) := by omega
    clear hm0 hr0 hm1 hN1 hC1 hg hl0
    go_enter Try.func9, Try.ntmps9
    go_wp2_with (first | (go_at_call 21; (with_reducible refine (alive13_any _).mono ?_); rintro e w1 ⟨rfl, hb1⟩))
    go_ret
    exact ⟨rfl, hb1⟩
  · have g1 : ¬ (4000 : Int) < (n1 : Int) := by omega
    have D1 := fun (W : World) (hb : Below w.heap.size w W) => rCheck_any n1 A0 l0 k0 W (hm0.on hb) hl0 hr0
    by_cases h1 : ckE n1 l0 = 0
    · obtain ⟨_, _, ho⟩ := ckE_0 h1
      have ll := ho.len2 (by omega)
      simp only [h1] at D1
      cases l0 with
      | nil =>
        have T := fun (W : World) (hb : Below w.heap.size w W) => true_any A0 [] k0 A1 n1 k1 f1 W (hm0.on hb) (by simp) (fun x hx => by cases hx) (hm1.to hb hb.size) (by omega)
        have t : trB n1 f1 [] = false := by unfold trB trs; simp
        simp only [t, h1, List.length_nil] at T D1 ⊢
        clear hm0 hr0 hm1 hN1 hC1 hg hl0 hn63 h1 ho ll t
        go_enter Try.func9, Try.ntmps9
        go_wp2_with (first
          | (go_at_call 21; (with_reducible refine (alive13_any _).mono ?_); rintro e w1 ⟨rfl, hb1⟩)
          | (go_at_call 16; (with_reducible refine (D1 w1 hb1).mono ?_); rintro e w2 ⟨rfl, d1, rfl⟩)
          | (go_at_call 12; (with_reducible refine (T _ (below_dn hb1 _)).mono ?_); rintro e w3 ⟨rfl, hb3⟩))
        go_ret
        exact ⟨rfl, bn (below_dn hb1 _) hb3⟩
      | cons c r =>
        obtain ⟨i0, hi0, hzz0, hs0, hy0⟩ := info_parts info_bl13
        obtain ⟨c1, c2⟩ := isL_iff.1 (ho.1 c (by simp))
        obtain ⟨b, o, rfl, hbb, hcs⟩ := hm0.cells (by simp)
        have y0 : w.cell? ⟨b, o, none⟩ = some (.int .i64 c) := hcs 0 (by simp)
        have hq : c.tdiv 2 = c / 2 := Int.tdiv_eq_ediv_of_nonneg (by omega)
        have hr : c.tmod 2 = c % 2 := Int.tmod_eq_emod_of_nonneg (by omega)
        have m0 : 0 ≤ c / 2 - 1 := by omega
        have m1 : c / 2 - 1 < (n1 : Int) := by omega
        have hwq : IntKind.i64.wrap (c / 2 - 1) = c / 2 - 1 := by rw [IntKind.wrap_i64]; omega
        obtain ⟨p, hp⟩ : ∃ p, p = (c / 2).toNat - 1 := ⟨_, rfl⟩
        have hpn : p < n1 := by omega
        have hwn : (c / 2 - 1).toNat = p := by omega
        have hwn2 : (c / 2).toNat - 1 = p := hp.symm
        have htr : trB n1 (fun j => if j = p then c % 2 == 0 else f1 j) (c :: r) = true := by
          unfold trB
          rw [h1, Bool.and_eq_true]
          refine ⟨rfl, trs_iff.2 ⟨c, by simp, ?_⟩⟩
          unfold tr
          simp only
          rw [hwn, if_pos rfl, Bool.beq_eq_decide_eq]
          simp only [decide_eq_true_eq]
          rw [Bool.eq_iff_iff, beq_iff_eq, decide_eq_true_iff]
        have T := fun (g7 k7 : Nat) (W : World) (hb : Below w.heap.size w W) (h3 : BlsAt W W.heap.size (some ⟨g7, 0, none⟩) n1 (fun j => if j = p then c % 2 == 0 else f1 j)) => true_any (some ⟨b, o, none⟩) (c :: r) k0 (some ⟨g7, 0, none⟩) n1 k7 (fun j => if j = p then c % 2 == 0 else f1 j) W (hm0.on hb) (by omega) hr0 h3 (by omega)
        rw [htr, h1] at T
        have HH := Lib.hid (And.intro hm1 (And.intro hN1 (And.intro y0 hpn)))
        have hmp : 0 < (c :: r).length := by simp
        obtain ⟨m, hmm⟩ : ∃ m, m = (c :: r).length := ⟨_, rfl⟩
        rw [← hmm] at D1 T hmp ⊢
        have e0 : ((m : Int) == 0) = false := by simp only [beq_eq_false_iff_ne]; omega
        have hm63 : (m : Int) ≤ 9223372036854775807 := by rw [← hmm] at hl0; omega
        have mp : (0 : Int) < (m : Int) := by omega
        have hn4 : n1 ≤ 4000 := by omega
        clear hm0 hr0 hm1 hN1 hC1 hg hl0 hn63 h1 ho ll hcs y0 hmm htr hp
        go_enter Try.func9, Try.ntmps9
        go_wp2_with (first
          | (go_at_call 21; (with_reducible refine (alive13_any _).mono ?_); rintro e w1 ⟨rfl, hb1⟩)
          | (go_at_call 16; (with_reducible refine (D1 w1 hb1).mono ?_); rintro e w2 ⟨rfl, d1, rfl⟩
             have hBx : Below w.heap.size w ((w1.drewN d1).alloc (.cells #[] 4)) := (below_dn hb1 d1).alloc (below_dn hb1 d1).size _
             have hNx : Has ((w1.drewN d1).alloc (.cells #[] 4)) w1.heap.size 4 #[] := Has.new' _ _ rfl
             have hsx := (HH.out.1.to hBx hBx.size).src HH.out.2.1
             have hsz : w.heap.size ≤ w1.heap.size := hb1.size)
          | (at_builtin
             (refine append_to_new rfl (.tmp 45) (.tmp 46) 23 rfl w.heap.size 4 i0 (.bool false) 1 1 Try.underlying23 hi0 hzz0 hs0 hy0 rfl (by decide) w1.heap.size rfl hsz hNx A1 n1 k1 (bL f1 n1) rfl (bL_len _ _) hsx (bL_one _ _) (by simp only [maxLen]; omega) (by omega) hBx.size ?_)
             intro g7 k7 w7 ho7 hg7 hor7
             have hB7 : Below w.heap.size w w7 := hBx.grown hg7 hBx.size (fun k hk => by cases hk; exact hsz)
             have y : w7.cell? ⟨b, o, none⟩ = some (.int .i64 c) := (hB7.cell (cell_lt HH.out.2.2.1)).trans HH.out.2.2.1
             have y2 := World.ownsRow.cells ho7 (g := g7) rfl _ _ (bL_at f1 n1 p HH.out.2.2.2)
             rw [show (⟨g7, 0, none⟩ : Addr).add p = ⟨g7, p, none⟩ by unfold Addr.add; split <;> simp_all] at y2
             have yf : w7.frozen? ⟨g7, p, none⟩ = false := by
               rcases ho7.2 with ⟨h, _⟩ | ⟨g', cap, cur, hv, _, hh, _⟩
               · cases h
               · cases hv; exact Has.fz (t := 4) (cs := cur) hh p))
        have HF : Hid (∀ m9 : Nat, Calls Try.prog 12 #[.slice (some ⟨b, o, none⟩) m k0, .slice (some ⟨g7, 0, none⟩) n1 k7] ((w7.drewN m9).setCell ⟨g7, p, none⟩ (.bool (c % 2 == 0))) fun e w' => e = .returned (.tuple #[.bool true, .int .i64 0]) ∧ Below w.heap.size w w') := Lib.hid fun m9 => by
          have hgb : w.heap.size ≤ g7 := by
            rcases ho7.2 with ⟨h, _⟩ | ⟨g', cap, cur, hv, h, _⟩
            · cases h
            · cases hv; exact h
          have hB8 : Below w.heap.size w ((w7.drewN m9).setCell ⟨g7, p, none⟩ (.bool (c % 2 == 0))) := (below_dn hB7 m9).setCell (p := ⟨g7, p, none⟩) hgb _
          have ho8 := (World.ownsRow.stored (w := w7.drewN m9) ho7 p (.bool (c % 2 == 0))).1
          rw [bL_set] at ho8
          obtain ⟨A8, k8, e8, hm8, _⟩ := own_bools ho8
          injection e8 with e8 _ e9
          subst e8 e9
          exact (T g7 k7 _ hB8 hm8).mono fun e w' h => ⟨h.1, bn hB8 h.2⟩
        go_region
        go_wp2_with (first
          | (go_at_call 12; (refine (HF.out 1).mono ?_); rintro e w9 ⟨rfl, hb9⟩))
        go_ret
        exact ⟨rfl, hb9⟩
    · have e2 : (ckE n1 l0 != 0) = true := by simpa using h1
      obtain ⟨u, hu⟩ : ∃ u, u = ckE n1 l0 := ⟨_, rfl⟩
      rw [← hu] at D1 e2
      obtain ⟨m, hm'⟩ : ∃ m, m = l0.length := ⟨_, rfl⟩
      rw [← hm'] at D1 ⊢
      clear hm0 hr0 hm1 hN1 hC1 hg hl0 hn63 h1 hu hm'
      go_enter Try.func9, Try.ntmps9
      go_wp2_with (first
        | (go_at_call 21; (with_reducible refine (alive13_any _).mono ?_); rintro e w1 ⟨rfl, hb1⟩)
        | (go_at_call 16; (with_reducible refine (D1 w1 hb1).mono ?_); rintro e w2 ⟨rfl, d1, rfl⟩))
      go_ret
      exact ⟨rfl, below_dn hb1 _⟩

set_option maxRecDepth 100000 in
theorem lifted (os : Os) (started : os.Started) (H : Type) (enc : TypeId × Value → H) :
    ReturnsInHanded {} Try.checked os 9 .any (Rows.clauseEmptySpec.pre6 enc Try.prog Try.f9 Rows.clauseEmptyRow.domain false) (Rows.clauseEmptySpec.post enc Try.prog Try.f9 false true false false) := by
  refine returnsInHanded_of_change (C := Try.checked) own started (by kernel_rfl) Try.func9
    (ChangeSpec.witness6 (enc := enc) (C := Try.checked) false ⟨#[], #[.slice none 0 0, .slice none 0 0], []⟩ 12 (by kernel_rfl) (by kernel_rfl) (by kernel_rfl) (by kernel_rfl)) ?_
  intro W base args ds gs before hval0 hW hcnd _
  have hval : ∀ (j : Nat) t v, Try.f9.params[j]? = some t → args[j]? = some v → Value.okWide Try.prog W .any base t v := hval0
  have hW' := hW
  have hlt : ∀ x ∈ before, x.block < W.heap.size := fun x hx => by simpa using hW'.lt x hx
  obtain ⟨p, q, hA0, hV, rfl, hfz, hnd⟩ := hW
  have hA : DataW.TrodAll enc Try.prog W 0 (fun _ => true) true Try.f9.params.toList args.toList ds p := hA0
  rw [Try.params9] at hA hval
  obtain ⟨v0, vs0, d0, ds0, b0, q0, hargs, rfl, rfl, h0, r0⟩ := trodAll_cons hA
  obtain ⟨v1, vs1, d1, ds1, b1, q1, rfl, rfl, rfl, h1, r1⟩ := trodAll_cons r0
  obtain ⟨rfl, rfl, rfl⟩ := trodAll_nil r1
  obtain rfl : args = #[v0, v1] := by cases args; simp_all
  obtain ⟨rfl, rfl⟩ := trodVars_none hV
  obtain ⟨A0, l0, k0, rfl, hm0, hK0, hr0⟩ := open_is (hval 0 22 v0 rfl rfl) h0
  obtain ⟨A1, n1, k1, f1, rfl, hm1, hN1, hC1⟩ := open_bl (hval 1 23 v1 rfl rfl) h1
  have hlo : laidOutB Try.prog = true := by kernel_rfl
  clear hA0 hval0
  simp only [List.append_nil] at hW' hlt
  refine (walk A0 l0 k0 A1 n1 k1 f1 W hm0 hr0 hK0 hm1 hN1 hC1).mono fun e W' ⟨he, hb⟩ => ?_
  subst he
  have hback := (trodAll_cons_mk (arg_back (W' := W') hlo (by kernel_rfl) (of_decide_eq_true (by kernel_rfl)) h0 hb (fun x hx => hlt x (by simp [hx]))) (trodAll_cons_mk (arg_back (W' := W') hlo (by kernel_rfl) (of_decide_eq_true (by kernel_rfl)) h1 hb (fun x hx => hlt x (by simp [hx]))) trodAll_mk0))
  simp only [List.append_nil, List.nil_append] at hback
  exact ⟨_, rfl, law_post hW' (trodAll_cons_mk (shut_bool Try.underlying4 _) trodAll_mk0) hback rfl hb⟩

theorem over : Rows.clauseEmptyRow.holds Try.pinned (OpenSpec.ofChange Rows.clauseEmptySpec) :=
  OpenClaim.holds_of_wide 9 Try.f9 rfl rfl rfl rfl rfl rfl rfl ⟨rfl, rfl, rfl, rfl, rfl⟩ rfl rfl rfl rfl rfl (by kernel_rfl) Try.func9 (by kernel_rfl)
    (of_decide_eq_true (by kernel_rfl)) (by unfold Func.isWrapper; first | (rw [if_pos (by decide +kernel)]; kernel_rfl) | (rw [if_neg (by decide +kernel)]; exact ⟨rfl, rfl⟩))
    (fun os started H enc _ => lifted os started H enc)

theorem proved : Rows.ClauseEmptySaid :=
  over
end Go.Proofs.Ytigfdfbjpelcaaa.clauseEmpty
